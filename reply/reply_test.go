package reply

import (
	"bytes"
	"encoding/binary"
	"math"
	"math/rand"
	"reflect"
	"slices"
	"testing"

	"drayage/api"
)

// far are numbers that nothing in a reply may be: those that fewer bits would take for others are among them.
var far = []int{math.MinInt, math.MinInt + 1, -1<<48 - 1, -1 << 48, -1<<32 + 1, -1 << 32, -300, -2, -1, 1<<48 + 1, 1<<48 + 2, 1 << 49, 1<<56 + 1, 1 << 62, math.MaxInt - 1, math.MaxInt}

// spot is a number of a reply, and what it is at most.
type spot struct {
	name string
	most int
	get  func(r api.Reply) int
	set  func(r *api.Reply, n int)
}

var spots = []spot{
	{"Key", 1 << 30, func(r api.Reply) int { return r.Key }, func(r *api.Reply, n int) { r.Key = n }},
	{"Err", 99, func(r api.Reply) int { return int(r.Err) }, func(r *api.Reply, n int) { r.Err = api.Errno(n) }},
	{"Job", 1 << 48, func(r api.Reply) int { return r.Job }, func(r *api.Reply, n int) { r.Job = n }},
	{"Version", 1 << 48, func(r api.Reply) int { return r.Version }, func(r *api.Reply, n int) { r.Version = n }},
}

// said are replies with their bytes, written by hand.
var said = []struct {
	r api.Reply
	b []byte
}{
	{api.Reply{Key: 7, Err: api.ErrBusy}, []byte{7, 50, 0, 0, 0}}, // the chapter's example
	{api.Reply{}, []byte{0, 0, 0, 0, 0}},
	{api.Reply{Key: 1, Err: 2, Job: 3, Version: 4}, []byte{1, 2, 3, 4, 0}},
	{api.Reply{Key: 1, Err: 2, Job: 3, Version: 4, Nums: []int{5}}, []byte{1, 2, 3, 4, 1, 5}},
	{api.Reply{Key: 1, Job: 5, Version: 2, Nums: []int{300, 0}}, []byte{1, 0, 5, 2, 2, 172, 2, 0}},
	{api.Reply{Nums: []int{0, 0, 0}}, []byte{0, 0, 0, 0, 3, 0, 0, 0}},
	{api.Reply{Key: 300, Err: 99, Job: 127, Version: 128, Nums: []int{1, 16384, 3, 2}}, []byte{172, 2, 99, 127, 128, 1, 4, 1, 128, 128, 1, 3, 2}},
	{api.Reply{Key: 1 << 30, Err: 99, Job: 1 << 48, Version: 4, Nums: []int{1 << 48}}, []byte{128, 128, 128, 128, 4, 99, 128, 128, 128, 128, 128, 128, 64, 4, 1, 128, 128, 128, 128, 128, 128, 64}},
	{api.Reply{Key: 2, Err: 77, Version: 1 << 48}, []byte{2, 77, 0, 128, 128, 128, 128, 128, 128, 64, 0}},
}

// long is the bytes of 2^48, endless are bytes that begin no number, and end with none.
var (
	long    = []byte{128, 128, 128, 128, 128, 128, 64}
	endless = bytes.Repeat([]byte{128}, 8)
)

// bad are bytes that no reply has, and what is wrong with them first, written by hand.
var bad = []struct {
	b   []byte
	err api.Errno
}{
	{nil, api.ErrShort}, {[]byte{}, api.ErrShort}, {[]byte{128}, api.ErrShort}, {[]byte{255, 255}, api.ErrShort}, {endless[:7], api.ErrShort}, // no Key
	{endless, api.ErrForm}, {[]byte{129, 0}, api.ErrForm}, {[]byte{129, 0, 0, 0, 0, 0}, api.ErrForm}, {append([]byte{129}, long[1:]...), api.ErrForm}, // no number
	{[]byte{129, 128, 128, 128, 4}, api.ErrForm}, {[]byte{129, 128, 128, 128, 4, 0, 0, 0, 0}, api.ErrForm}, {append(slices.Clone(long), 0, 0, 0, 0), api.ErrForm}, {[]byte{129, 128, 128, 128, 16, 0, 0, 0, 0}, api.ErrForm}, {[]byte{129, 128, 128, 128, 4, 128}, api.ErrForm}, // Keys that may not be
	{[]byte{1}, api.ErrShort}, {[]byte{1, 128}, api.ErrShort}, {[]byte{1, 227}, api.ErrShort}, {append([]byte{1}, endless...), api.ErrForm}, {[]byte{1, 227, 0, 0, 0, 0}, api.ErrForm}, // no Err
	{[]byte{1, 100}, api.ErrForm}, {[]byte{1, 100, 0, 0, 0}, api.ErrForm}, {[]byte{1, 127, 0, 0, 0}, api.ErrForm}, {[]byte{1, 128, 1, 0, 0, 0}, api.ErrForm}, {[]byte{1, 129, 2, 0, 0, 0}, api.ErrForm}, {[]byte{1, 129, 128, 128, 128, 16, 0, 0, 0}, api.ErrForm}, {[]byte{1, 100, 128}, api.ErrForm}, // Errs that may not be
	{[]byte{1, 0}, api.ErrShort}, {[]byte{1, 0, 128}, api.ErrShort}, {[]byte{1, 0, 131, 0, 0, 0}, api.ErrForm}, {append([]byte{1, 0, 129}, long[1:]...), api.ErrForm}, {append([]byte{1, 0}, endless...), api.ErrForm}, // no Job
	{[]byte{1, 0, 5}, api.ErrShort}, {[]byte{1, 0, 5, 128}, api.ErrShort}, {[]byte{1, 0, 5, 131, 0, 0}, api.ErrForm}, {append([]byte{1, 0, 5, 129}, long[1:]...), api.ErrForm}, {append([]byte{1, 0, 5}, endless...), api.ErrForm}, // no Version
	{[]byte{1, 0, 5, 2}, api.ErrShort}, {[]byte{1, 0, 5, 2, 128}, api.ErrShort}, {[]byte{1, 0, 5, 2, 128, 0}, api.ErrForm}, {append([]byte{1, 0, 5, 2}, endless...), api.ErrForm}, // not how many
	{[]byte{1, 0, 0, 0, 65}, api.ErrForm}, {append([]byte{1, 0, 0, 0, 65}, make([]byte, 65)...), api.ErrForm}, {[]byte{1, 0, 0, 0, 65, 128}, api.ErrForm}, {[]byte{1, 0, 0, 0, 127}, api.ErrForm}, {append([]byte{1, 0, 0, 0}, long...), api.ErrForm}, {[]byte{1, 0, 0, 0, 129, 128, 128, 128, 16, 3}, api.ErrForm}, {[]byte{1, 0, 0, 0, 129, 2, 3}, api.ErrForm}, // too many
	{[]byte{1, 0, 0, 0, 1}, api.ErrShort}, {[]byte{1, 0, 0, 0, 64}, api.ErrShort}, {append([]byte{1, 0, 0, 0, 64}, make([]byte, 63)...), api.ErrShort}, {[]byte{1, 0, 5, 2, 2, 172, 2}, api.ErrShort}, {[]byte{1, 0, 5, 2, 2, 172, 2, 128}, api.ErrShort}, // not enough
	{[]byte{1, 0, 0, 0, 2, 131, 0}, api.ErrForm}, {append([]byte{1, 0, 0, 0, 1, 129}, long[1:]...), api.ErrForm}, {append([]byte{1, 0, 0, 0, 3, 1}, endless...), api.ErrForm}, {[]byte{1, 0, 0, 0, 2, 131, 0, 128}, api.ErrForm}, // no Nums
	{[]byte{7, 50, 0, 0, 0, 0}, api.ErrForm}, {[]byte{7, 50, 0, 0, 0, 128}, api.ErrForm}, {[]byte{1, 0, 5, 2, 2, 172, 2, 0, 0}, api.ErrForm}, {append([]byte{1, 0, 0, 0, 64}, make([]byte, 65)...), api.ErrForm}, {append([]byte{0, 0, 0, 0, 0}, make([]byte, 1<<16)...), api.ErrForm}, // something is left
}

// largest is the reply of which nothing may be above what it is.
func largest() api.Reply {
	r := api.Reply{Key: 1 << 30, Err: 99, Job: 1 << 48, Version: 1 << 48}
	for range 64 {
		r.Nums = append(r.Nums, 1<<48)
	}
	return r
}

// drawnNumber is one of few digits as often as one of many.
func drawnNumber(drawn *rand.Rand, most int) int {
	return int(drawn.Int63n(int64(most)+1) >> drawn.Intn(49))
}

// rights are many right replies.
func rights() []api.Reply {
	var l []api.Reply
	for _, c := range said {
		l = append(l, c.r)
	}
	l = append(l, largest())
	drawn := rand.New(rand.NewSource(9))
	for range 4000 {
		var r api.Reply
		for _, s := range spots {
			s.set(&r, drawnNumber(drawn, s.most))
		}
		for range drawnNumber(drawn, 64) {
			r.Nums = append(r.Nums, drawnNumber(drawn, 1<<48))
		}
		l = append(l, r)
	}
	return l
}

// wrongs are many replies that one thing tells from right ones.
func wrongs() []api.Reply {
	var l []api.Reply
	for _, base := range []api.Reply{{}, said[4].r, largest()} {
		for _, s := range spots {
			for _, n := range append([]int{s.most + 1, s.most + 2, s.most + 1<<32, s.most | 1<<49}, far...) {
				r := base
				s.set(&r, n)
				l = append(l, r)
			}
		}
		for _, nums := range wrongNums() {
			r := base
			r.Nums = nums
			l = append(l, r)
		}
	}
	return l
}

// wrongNums are those that no reply may have.
func wrongNums() [][]int {
	l := [][]int{make([]int, 65), make([]int, 66), make([]int, 256), make([]int, 1<<16)}
	for _, n := range far {
		l = append(l, []int{n}, []int{n, 1}, []int{1, 2, n}, append(make([]int, 63), n))
	}
	return l
}

// clone is a reply that shares nothing with r.
func clone(r api.Reply) api.Reply {
	r.Nums = slices.Clone(r.Nums)
	return r
}

// same is whether two replies are the same, but that a list without an element may be nil.
func same(a, b api.Reply) bool {
	if len(a.Nums) == 0 && len(b.Nums) == 0 {
		a.Nums, b.Nums = nil, nil
	}
	return reflect.DeepEqual(a, b)
}

// taken is the first number of b, by the library's own reader of such digits, with what stands behind it.
func taken(b []byte, hi int) (int, []byte, api.Errno) {
	last := slices.IndexFunc(b, func(c byte) bool { return c < 128 })
	if last < 0 && len(b) < 8 {
		return 0, nil, api.ErrShort
	}
	if last < 0 || last >= 8 {
		return 0, nil, api.ErrForm
	}
	n, size := binary.Uvarint(b[:last+1])
	if n > uint64(hi) || !bytes.Equal(binary.AppendUvarint(nil, n), b[:size]) {
		return 0, nil, api.ErrForm
	}
	return int(n), b[size:], api.OK
}

// wanted is what bytes are to be read as.
func wanted(b []byte) (api.Reply, api.Errno) {
	var r api.Reply
	var n int
	var err api.Errno
	for _, s := range spots {
		if n, b, err = taken(b, s.most); err != api.OK {
			return api.Reply{}, err
		}
		s.set(&r, n)
	}
	many, b, err := taken(b, 64)
	if err != api.OK {
		return api.Reply{}, err
	}
	for range many {
		if n, b, err = taken(b, 1<<48); err != api.OK {
			return api.Reply{}, err
		}
		r.Nums = append(r.Nums, n)
	}
	if len(b) > 0 {
		return api.Reply{}, api.ErrForm
	}
	return r, api.OK
}

func checkWrite(t *testing.T, r api.Reply, want []byte, wantErr api.Errno) {
	t.Helper()
	before := clone(r)
	if got, err := Write(r); !bytes.Equal(got, want) || err != wantErr {
		t.Errorf("Write(%v) = %v, %d, want %v, %d", r, got, err, want, wantErr)
	}
	if !same(r, before) {
		t.Errorf("%v was changed to %v", before, r)
	}
}

func checkRead(t *testing.T, b []byte, want api.Reply, wantErr api.Errno) {
	t.Helper()
	before := slices.Clone(b)
	if got, err := Read(b); !same(got, want) || err != wantErr {
		t.Errorf("Read(%v) = %v, %d, want %v, %d", b, got, err, want, wantErr)
	}
	if !bytes.Equal(b, before) {
		t.Errorf("%v was changed to %v", before, b)
	}
}

func TestP9_1RightOnes(t *testing.T) {
	for _, r := range rights() {
		if !Right(r) {
			t.Errorf("%v isn't right", r)
		}
	}
}

func TestP9_1RightOfEachNumberInItsBounds(t *testing.T) {
	for _, s := range spots {
		for _, n := range []int{0, 1, 2, 53, 98, 99, 100, 128, 1<<30 - 1, 1 << 30, 1<<30 + 1, 1 << 32, 1<<48 - 1, 1 << 48} {
			var r api.Reply
			s.set(&r, n)
			if Right(r) != (n <= s.most) {
				t.Errorf("%s %d: Right is %v", s.name, n, Right(r))
			}
		}
	}
}

func TestP9_1RightOfNums(t *testing.T) {
	for size := range 65 {
		if !Right(api.Reply{Nums: make([]int, size)}) {
			t.Errorf("%d Nums aren't right", size)
		}
	}
	for _, n := range []int{0, 1, 1 << 30, 1<<30 + 1, 1 << 32, 1<<48 - 1, 1 << 48} {
		if !Right(api.Reply{Nums: []int{0, n}}) {
			t.Errorf("a Num of %d isn't right", n)
		}
	}
}

func TestP9_1RightOfWhatIsNot(t *testing.T) {
	for _, r := range wrongs() {
		if Right(r) {
			t.Errorf("%v is right", r)
		}
	}
}

func TestP9_1RightAndSameLeaveWhatIsHandedIn(t *testing.T) {
	for _, r := range append(rights(), wrongs()...) {
		before := clone(r)
		Right(r)
		Same(r, r)
		if !same(r, before) {
			t.Fatalf("%v was changed to %v", before, r)
		}
	}
}

func TestP9_1WriteCases(t *testing.T) {
	for _, c := range said {
		checkWrite(t, c.r, c.b, api.OK)
	}
	checkWrite(t, api.Reply{Key: 2, Nums: []int{}}, []byte{2, 0, 0, 0, 0}, api.OK)
}

func TestP9_1WriteOfTheLargest(t *testing.T) {
	want := slices.Concat([]byte{128, 128, 128, 128, 4, 99}, long, long, []byte{64}, bytes.Repeat(long, 64))
	checkWrite(t, largest(), want, api.OK)
}

func TestP9_1WriteOfManyNums(t *testing.T) {
	for size := range 65 {
		r, want := api.Reply{Key: 1, Err: 2, Job: 3, Version: 4}, []byte{1, 2, 3, 4, byte(size)}
		for i := range size {
			r.Nums = append(r.Nums, i+5)
			want = append(want, byte(i+5))
		}
		checkWrite(t, r, want, api.OK)
	}
}

func TestP9_1WriteOfWhatIsNotRight(t *testing.T) {
	for _, r := range wrongs() {
		checkWrite(t, r, nil, api.ErrArg)
	}
}

func TestP9_1WriteAnswersNewMemory(t *testing.T) {
	for _, c := range said {
		b, _ := Write(c.r)
		clear(b[:cap(b)])
		checkWrite(t, c.r, c.b, api.OK)
	}
}

func TestP9_1WriteLeavesWhatNumsHasRoomFor(t *testing.T) {
	room := []int{1, 2, 3, 4, 5, 6, 7, 8}
	checkWrite(t, api.Reply{Nums: room[:2]}, []byte{0, 0, 0, 0, 2, 1, 2}, api.OK)
	if !slices.Equal(room, []int{1, 2, 3, 4, 5, 6, 7, 8}) {
		t.Errorf("what stands behind the Nums was changed: %v", room)
	}
}

func TestP9_1ReadCases(t *testing.T) {
	for _, c := range said {
		checkRead(t, c.b, c.r, api.OK)
	}
}

func TestP9_1ReadOfWhatIsNone(t *testing.T) {
	for _, c := range bad {
		checkRead(t, c.b, api.Reply{}, c.err)
	}
}

func TestP9_1ReadOfWhatIsCutShort(t *testing.T) {
	for _, r := range rights()[:100] {
		b, _ := Write(r)
		for size := range b {
			checkRead(t, b[:size], api.Reply{}, api.ErrShort)
		}
	}
}

func TestP9_1ReadWithSomethingLeft(t *testing.T) {
	for _, c := range said {
		for _, more := range [][]byte{{0}, {1}, {128}, {255}, {0, 0}, {128, 0}, c.b, bytes.Repeat([]byte{255}, 20)} {
			checkRead(t, slices.Concat(c.b, more), api.Reply{}, api.ErrForm)
		}
	}
}

func TestP9_1ReadOfNumbersAtTheirBounds(t *testing.T) {
	for i, s := range spots {
		for _, n := range []int{0, 1, 52, 53, 98, 99, 100, 127, 128, 256, 1<<30 - 1, 1 << 30, 1<<30 + 1, 1 << 32, 1<<32 + 1, 1<<48 - 1, 1 << 48} {
			r := api.Reply{Key: 5, Err: 6, Job: 7, Version: 8}
			number := binary.AppendUvarint(nil, uint64(n))
			b := slices.Concat([]byte{5, 6, 7, 8}[:i], number, []byte{5, 6, 7, 8}[i+1:], []byte{0})
			if n <= s.most {
				s.set(&r, n)
				checkRead(t, b, r, api.OK)
				continue
			}
			checkRead(t, b, api.Reply{}, api.ErrForm)
			checkRead(t, b[:i+len(number)], api.Reply{}, api.ErrForm) // short behind it: ErrForm stands ahead
			checkRead(t, append(b[:i+len(number)], 128), api.Reply{}, api.ErrForm)
		}
	}
}

func TestP9_1ReadOfHowManyNums(t *testing.T) {
	for _, many := range []int{0, 1, 2, 63, 64, 65, 66, 127, 128, 256, 1 << 10} {
		b := binary.AppendUvarint([]byte{1, 2, 3, 4}, uint64(many))
		r, err := api.Reply{Key: 1, Err: 2, Job: 3, Version: 4, Nums: make([]int, many)}, api.OK
		if many > 64 {
			r, err = api.Reply{}, api.ErrForm
			checkRead(t, b, r, err)
		}
		checkRead(t, append(b, make([]byte, many)...), r, err)
	}
}

// changed are bytes with each of them left out, doubled, replaced by any other, and with some ahead of it.
func changed(b []byte) [][]byte {
	var l [][]byte
	for i := range b {
		l = append(l, slices.Concat(b[:i], b[i+1:]), slices.Concat(b[:i+1], b[i:]))
		for c := range 1 << 8 {
			l = append(l, slices.Concat(b[:i], []byte{byte(c)}, b[i+1:]))
		}
		for _, c := range []byte{0, 1, 2, 3, 64, 65, 99, 100, 127, 128, 129, 255} {
			l = append(l, slices.Concat(b[:i], []byte{c}, b[i:]))
		}
	}
	return l
}

func TestP9_1ReadTellsBytesFromTheirNeighbours(t *testing.T) {
	read := 0
	for _, c := range said {
		for _, b := range changed(c.b) {
			want, err := wanted(b)
			checkRead(t, b, want, err)
			if err == api.OK {
				read++
			}
		}
	}
	if read < 1000 {
		t.Errorf("of all these bytes only %d are to be read", read)
	}
}

func TestP9_1ReadOfAllSortsOfBytes(t *testing.T) {
	drawn := rand.New(rand.NewSource(91))
	some := []byte{0, 0, 0, 1, 1, 2, 3, 4, 5, 50, 63, 64, 65, 99, 100, 127, 128, 129, 255}
	for range 200000 {
		b := make([]byte, drawn.Intn(16))
		for i := range b {
			b[i] = some[drawn.Intn(len(some))]
		}
		want, err := wanted(b)
		checkRead(t, b, want, err)
	}
}

func TestP9_1ReadAnswersNewMemory(t *testing.T) {
	b := []byte{1, 2, 3, 4, 3, 5, 6, 7}
	one, _ := Read(b)
	other, _ := Read(b)
	clear(b)
	clear(one.Nums[:cap(one.Nums)])
	if !slices.Equal(other.Nums, []int{5, 6, 7}) {
		t.Errorf("Nums are changed to %v", other.Nums)
	}
}

func TestP9_1SameOfTheSame(t *testing.T) {
	for _, r := range append(rights(), wrongs()...) {
		if !Same(r, clone(r)) {
			t.Errorf("%v isn't the same as itself", r)
		}
	}
}

func TestP9_1SameOfAllSortsOfPairs(t *testing.T) {
	l := append(rights()[:80], wrongs()...)
	for _, a := range l {
		for _, b := range l {
			if Same(a, b) != same(a, b) {
				t.Errorf("Same(%v, %v) = %v", a, b, Same(a, b))
			}
		}
	}
}

func TestP9_1SameOfWhatOneNumberTells(t *testing.T) {
	for _, r := range append(rights()[:100], wrongs()...) {
		for _, s := range spots {
			for _, bit := range []int{1, 1 << 8, 1 << 32, 1 << 50, math.MinInt} {
				other := clone(r)
				s.set(&other, s.get(r)^bit)
				if Same(r, other) || Same(other, r) {
					t.Fatalf("%v is the same as %v, which has another %s", r, other, s.name)
				}
			}
		}
	}
}

func TestP9_1SameOfNums(t *testing.T) {
	lists := [][]int{nil, {0}, {0, 0}, {1}, {2}, {1, 2}, {2, 1}, {1, 1}, {1, 2, 3}, {1, 2, 4}, {1<<32 + 1}, {-1}, make([]int, 64), make([]int, 65)}
	for i, a := range lists {
		for j, b := range lists {
			x, y := api.Reply{Key: 1, Nums: a}, api.Reply{Key: 1, Nums: slices.Clone(b)}
			if Same(x, y) != (i == j) {
				t.Errorf("Same(%v, %v) = %v", x, y, i != j)
			}
		}
	}
	none, empty := api.Reply{Key: 1}, api.Reply{Key: 1, Nums: []int{}}
	if !Same(none, empty) || !Same(empty, none) {
		t.Error("a list without an element isn't the same as none")
	}
}

func TestP9_1Refusal(t *testing.T) {
	keys := append([]int{0, 1, 7, 300, 1 << 30, 1<<30 + 1, 1 << 48}, far...) // also those of no right reply
	for _, key := range keys {
		for _, e := range append([]int{0, 11, 12, 50, 51, 52, 99, 100}, far...) {
			if got := Refusal(key, api.Errno(e)); !same(got, api.Reply{Key: key, Err: api.Errno(e)}) {
				t.Errorf("Refusal(%d, %d) = %v", key, e, got)
			}
		}
	}
	checkWrite(t, Refusal(7, api.ErrBusy), []byte{7, 50, 0, 0, 0}, api.OK)
}

func TestP9_2ReadAsWritten(t *testing.T) {
	for _, r := range rights() {
		b, err := Write(r)
		if err != api.OK {
			t.Fatalf("Write(%v): %d", r, err)
		}
		checkRead(t, b, r, api.OK)
		if got, err := Read(b); !Same(got, r) || err != api.OK {
			t.Errorf("%v is read as %v, %d", r, got, err)
		}
	}
}

func TestP9_2WrittenAsRead(t *testing.T) {
	read := 0
	for _, c := range said {
		for _, b := range changed(c.b) {
			r, err := Read(b)
			if err != api.OK {
				continue
			}
			read++
			if !Right(r) {
				t.Errorf("%v is read of %v, and isn't right", r, b)
			}
			checkWrite(t, r, b, api.OK)
		}
	}
	if read < 1000 {
		t.Errorf("of all these bytes only %d were read", read)
	}
}
