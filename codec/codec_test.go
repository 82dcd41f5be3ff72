package codec

import (
	"bytes"
	"encoding/binary"
	"math"
	"math/rand"
	"slices"
	"testing"

	"drayage/api"
)

// said are numbers with their bytes, written by hand.
var said = []struct {
	n int
	b []byte
}{
	{300, []byte{172, 2}}, // the chapter's example
	{0, []byte{0}}, {1, []byte{1}}, {2, []byte{2}}, {63, []byte{63}}, {64, []byte{64}}, {126, []byte{126}}, {127, []byte{127}},
	{128, []byte{128, 1}}, {129, []byte{129, 1}}, {130, []byte{130, 1}}, {255, []byte{255, 1}}, {256, []byte{128, 2}}, {257, []byte{129, 2}},
	{1000, []byte{232, 7}}, {16256, []byte{128, 127}}, {16383, []byte{255, 127}},
	{16384, []byte{128, 128, 1}}, {16385, []byte{129, 128, 1}}, {16511, []byte{255, 128, 1}}, {16512, []byte{128, 129, 1}}, {65536, []byte{128, 128, 4}}, {1 << 20, []byte{128, 128, 64}}, {1<<21 - 1, []byte{255, 255, 127}},
	{1 << 21, []byte{128, 128, 128, 1}}, {1<<28 - 1, []byte{255, 255, 255, 127}},
	{1 << 28, []byte{128, 128, 128, 128, 1}}, {1 << 30, []byte{128, 128, 128, 128, 4}}, {1<<31 - 1, []byte{255, 255, 255, 255, 7}}, {1 << 31, []byte{128, 128, 128, 128, 8}},
	{1<<32 - 1, []byte{255, 255, 255, 255, 15}}, {1 << 32, []byte{128, 128, 128, 128, 16}}, {1<<32 + 5, []byte{133, 128, 128, 128, 16}}, {1<<35 - 1, []byte{255, 255, 255, 255, 127}},
	{1 << 35, []byte{128, 128, 128, 128, 128, 1}}, {api.MaxTime, []byte{128, 128, 128, 128, 128, 32}}, {1<<42 - 1, []byte{255, 255, 255, 255, 255, 127}},
	{1 << 42, []byte{128, 128, 128, 128, 128, 128, 1}}, {1<<42 + 1, []byte{129, 128, 128, 128, 128, 128, 1}}, {1 << 47, []byte{128, 128, 128, 128, 128, 128, 32}},
	{1<<48 - 1, []byte{255, 255, 255, 255, 255, 255, 63}}, {1 << 48, []byte{128, 128, 128, 128, 128, 128, 64}}, // the last one is MaxNumber
}

// wrong are numbers that have no bytes: those that fewer bits would take for others are among them.
var wrong = []int{
	math.MinInt, math.MinInt + 1, math.MinInt + 300, -1 << 48, -1<<48 - 1, -1<<48 + 1, -1 << 32, -1<<32 + 1, -1 << 31, -300, -256, -129, -128, -127, -2, -1,
	1<<48 + 1, 1<<48 + 2, 1<<48 + 127, 1<<48 + 128, 1<<49 - 1, 1 << 49, 1<<49 + 1, 1<<56 - 1, 1 << 56, 1<<56 + 1, 1 << 62, math.MaxInt - 1, math.MaxInt,
}

// bad are bytes with which no number's bytes begin, and what is wrong, written by hand.
var bad = []struct {
	b   []byte
	err api.Errno
}{
	{nil, api.ErrShort}, {[]byte{}, api.ErrShort}, {[]byte{128}, api.ErrShort}, {[]byte{129}, api.ErrShort}, {[]byte{255}, api.ErrShort}, {[]byte{128, 128}, api.ErrShort}, {[]byte{172, 130}, api.ErrShort}, {[]byte{255, 255, 255}, api.ErrShort},
	{[]byte{128, 128, 128, 128, 128, 128}, api.ErrShort}, {[]byte{255, 255, 255, 255, 255, 255}, api.ErrShort}, // a last one might yet stand behind these
	{[]byte{128, 128, 128, 128, 128, 128, 128}, api.ErrShort}, {[]byte{255, 255, 255, 255, 255, 255, 255}, api.ErrShort}, {[]byte{129, 128, 128, 128, 128, 128, 192}, api.ErrShort}, // seven, not eight
	{[]byte{128, 128, 128, 128, 128, 128, 128, 128}, api.ErrForm}, {[]byte{255, 255, 255, 255, 255, 255, 255, 255}, api.ErrForm}, {[]byte{129, 130, 131, 132, 133, 134, 135, 136}, api.ErrForm}, // eight, and the end
	{[]byte{128, 128, 128, 128, 128, 128, 128, 128, 0}, api.ErrForm}, {[]byte{128, 128, 128, 128, 128, 128, 128, 128, 1}, api.ErrForm}, {[]byte{128, 128, 128, 128, 128, 128, 128, 128, 128}, api.ErrForm}, {[]byte{255, 255, 255, 255, 255, 255, 255, 255, 255, 1}, api.ErrForm},
	{[]byte{128, 0}, api.ErrForm}, {[]byte{129, 0}, api.ErrForm}, {[]byte{255, 0}, api.ErrForm}, {[]byte{172, 130, 0}, api.ErrForm}, {[]byte{128, 128, 0}, api.ErrForm}, {[]byte{129, 128, 128, 0}, api.ErrForm}, // more than need be
	{[]byte{128, 128, 128, 128, 128, 128, 0}, api.ErrForm}, {[]byte{255, 255, 255, 255, 255, 255, 0}, api.ErrForm}, {[]byte{128, 128, 128, 128, 128, 128, 192, 0}, api.ErrForm}, {[]byte{128, 128, 128, 128, 128, 128, 128, 0}, api.ErrForm}, {[]byte{255, 128, 128, 128, 128, 128, 128, 0}, api.ErrForm},
	{[]byte{129, 128, 128, 128, 128, 128, 64}, api.ErrForm}, {[]byte{128, 129, 128, 128, 128, 128, 64}, api.ErrForm}, {[]byte{128, 128, 128, 128, 128, 129, 64}, api.ErrForm}, {[]byte{255, 255, 255, 255, 255, 255, 64}, api.ErrForm}, // above MaxNumber
	{[]byte{128, 128, 128, 128, 128, 128, 65}, api.ErrForm}, {[]byte{128, 128, 128, 128, 128, 128, 127}, api.ErrForm}, {[]byte{255, 255, 255, 255, 255, 255, 127}, api.ErrForm},
	{[]byte{128, 128, 128, 128, 128, 128, 128, 1}, api.ErrForm}, {[]byte{172, 128, 128, 128, 128, 128, 128, 2}, api.ErrForm}, {[]byte{255, 255, 255, 255, 255, 255, 255, 127}, api.ErrForm},
}

// bounds are ones for Within, with what is at them and beside them.
var bounds = []int{math.MinInt, -1 << 32, -1, 0, 1, 2, 63, 64, 127, 128, 129, 299, 300, 301, 1 << 31, 1 << 32, 1<<48 - 1, 1 << 48, 1<<48 + 1, math.MaxInt}

// behind are bytes that stand behind a number and are not its own.
var behind = [][]byte{nil, {0}, {1}, {127}, {128}, {255}, {0, 0}, {172, 2}, {128, 128, 128}, {128, 0}, {255, 255, 255, 255, 255, 255, 255, 255, 255}}

// wanted is what is to be read of b first, and of how many bytes: found by the library's own reader of such digits, and by what it would write.
func wanted(b []byte) (int, int, api.Errno) {
	last := slices.IndexFunc(b, func(c byte) bool { return c < 128 })
	switch {
	case last < 0 && len(b) < 8:
		return 0, 0, api.ErrShort
	case last < 0 || last >= 8:
		return 0, 0, api.ErrForm
	}
	n, size := binary.Uvarint(b[:last+1])
	if size != last+1 || n > api.MaxNumber || !bytes.Equal(binary.AppendUvarint(nil, n), b[:size]) {
		return 0, 0, api.ErrForm
	}
	return int(n), size, api.OK
}

// numbers are many that can be put: those of few digits, those near to powers of 2, and others.
func numbers() []int {
	var l []int
	for n := range 1 << 15 {
		l = append(l, n)
	}
	for place := range 49 {
		for near := -3; near <= 3; near++ {
			if n := 1<<place + near; n >= 0 && n <= api.MaxNumber {
				l = append(l, n)
			}
		}
	}
	for _, c := range said {
		l = append(l, c.n)
	}
	drawn := rand.New(rand.NewSource(5))
	for range 1 << 13 {
		l = append(l, int(drawn.Int63n(api.MaxNumber+1)>>drawn.Intn(49)))
	}
	return l
}

// texts are many lists of bytes: all of one or two, those of a few telling bytes, and those with up to nine ahead of the last one.
func texts() [][]byte {
	var l [][]byte
	for i := range 1 << 8 {
		l = append(l, []byte{byte(i)})
		for j := range 1 << 8 {
			l = append(l, []byte{byte(i), byte(j)})
		}
	}
	l = grown(l, nil, 5, []byte{0, 1, 63, 64, 127, 128, 129, 255})
	for size := 5; size <= 9; size++ {
		for _, first := range []byte{128, 129, 172, 255} {
			for _, rest := range []byte{128, 255} {
				for last := range 1 << 8 {
					b := append(append([]byte{first}, bytes.Repeat([]byte{rest}, size-1)...), byte(last))
					l = append(l, b[:size], b, append(slices.Clone(b), 7))
				}
			}
		}
	}
	return l
}

// grown are l, b, and b with up to so many of some bytes behind it.
func grown(l [][]byte, b []byte, more int, some []byte) [][]byte {
	l = append(l, slices.Clone(b))
	if more == 0 {
		return l
	}
	for _, c := range some {
		l = grown(l, append(slices.Clone(b), c), more-1, some)
	}
	return l
}

func checkPut(t *testing.T, b []byte, l []int, want []byte, wantErr api.Errno) {
	t.Helper()
	if got, err := Put(b, l...); !bytes.Equal(got, want) || err != wantErr {
		t.Errorf("Put(%v, %v) = %v, %d, want %v, %d", b, l, got, err, want, wantErr)
	}
}

// checkState looks at all that a reader tells without reading.
func checkState(t *testing.T, what any, r *Reader, left int, err, end api.Errno) {
	t.Helper()
	if r.Left() != left || r.Err() != err || r.End() != end {
		t.Errorf("%v: Left, Err, End = %d, %d, %d, want %d, %d, %d", what, r.Left(), r.Err(), r.End(), left, err, end)
	}
}

// checkFailed looks at a reader that has an error: that stays, whatever is read.
func checkFailed(t *testing.T, what any, r *Reader, err api.Errno) {
	t.Helper()
	checkState(t, what, r, 0, err, err)
	for range 3 {
		if n := r.Number(); n != 0 {
			t.Errorf("%v: Number behind an error = %d", what, n)
		}
		for _, lo := range []int{math.MinInt, 0, 1, math.MaxInt} {
			if n := r.Within(lo, math.MaxInt); n != 0 {
				t.Errorf("%v: Within behind an error = %d", what, n)
			}
		}
		checkState(t, what, r, 0, err, err)
	}
}

// checkNumber reads b's first number, and looks at what is left.
func checkNumber(t *testing.T, b []byte, want, size int, wantErr api.Errno) {
	t.Helper()
	r := New(b)
	if n := r.Number(); n != want {
		t.Errorf("New(%v).Number() = %d, want %d", b, n, want)
	}
	switch {
	case wantErr != api.OK:
		checkFailed(t, b, r, wantErr)
	case len(b) > size:
		checkState(t, b, r, len(b)-size, api.OK, api.ErrForm)
	default:
		checkState(t, b, r, 0, api.OK, api.OK)
	}
}

func TestP5_1PutCases(t *testing.T) {
	for _, c := range said {
		checkPut(t, nil, []int{c.n}, c.b, api.OK)
		checkPut(t, []byte{}, []int{c.n}, c.b, api.OK)
	}
}

func TestP5_1PutOfManyNumbersOneByOne(t *testing.T) {
	for _, n := range numbers() {
		checkPut(t, nil, []int{n}, binary.AppendUvarint(nil, uint64(n)), api.OK)
	}
}

func TestP5_1PutOfLists(t *testing.T) {
	checkPut(t, nil, []int{300, 0, 127, 128, 1 << 48}, []byte{172, 2, 0, 127, 128, 1, 128, 128, 128, 128, 128, 128, 64}, api.OK)
	checkPut(t, nil, []int{128, 127, 0, 300}, []byte{128, 1, 127, 0, 172, 2}, api.OK)
	checkPut(t, nil, []int{7, 7, 7}, []byte{7, 7, 7}, api.OK)
	var l []int
	var all []byte
	for _, c := range said {
		l, all = append(l, c.n), append(all, c.b...)
		checkPut(t, nil, l, all, api.OK)
	}
	l, all = numbers(), nil
	for _, n := range l {
		all = binary.AppendUvarint(all, uint64(n))
	}
	checkPut(t, nil, l, all, api.OK)
}

func TestP5_1PutBehindBytes(t *testing.T) {
	for _, b := range append(behind, []byte{0, 1, 2, 3, 255, 254, 128, 0}, bytes.Repeat([]byte{128}, 1000)) {
		checkPut(t, b, []int{300}, append(slices.Clone(b), 172, 2), api.OK)
		checkPut(t, b, []int{0, 300, 0}, append(slices.Clone(b), 0, 172, 2, 0), api.OK)
	}
}

func TestP5_1PutOfNothing(t *testing.T) {
	for _, b := range behind {
		checkPut(t, b, nil, b, api.OK)
		checkPut(t, b, []int{}, b, api.OK)
	}
}

func TestP5_1PutOfWhatHasNoBytes(t *testing.T) {
	for _, n := range wrong {
		for _, l := range [][]int{{n}, {n, 0}, {0, n}, {1, n, 2}, {300, 1 << 48, n}, {n, n}, {n, 1, 1, 1}, {0, 0, 0, n, 0}} {
			for _, b := range [][]byte{nil, {}, {1, 2, 3}, {128}} {
				checkPut(t, b, l, nil, api.ErrArg)
			}
		}
	}
}

func TestP5_1PutAnswersNoBytesWithAnError(t *testing.T) {
	if b, err := Put([]byte{1, 2}, 3, -1); len(b) != 0 || err != api.ErrArg {
		t.Errorf("%v, %d", b, err)
	}
}

func TestP5_1PutLeavesWhatIsHandedIn(t *testing.T) {
	for _, l := range [][]int{nil, {7}, {300, 1 << 48}, {7, -1}} {
		room := []byte{1, 2, 3, 4, 5, 6, 7, 8, 9, 10, 11, 12}
		was, list := slices.Clone(room), slices.Clone(l)
		Put(room[:3], l...)
		if !bytes.Equal(room, was) || !slices.Equal(l, list) {
			t.Errorf("Put(.., %v) leaves %v, %v", list, room, l)
		}
	}
}

func TestP5_1PutAnswersNewMemory(t *testing.T) {
	for _, l := range [][]int{nil, {7}, {300, 1 << 48}} {
		room := []byte{1, 2, 3, 4, 5, 6, 7, 8, 9, 10, 11, 12}
		was := slices.Clone(room)
		got, _ := Put(room[:3], l...)
		keep := slices.Clone(got)
		clear(got[:cap(got)])
		if !bytes.Equal(room, was) {
			t.Errorf("Put(.., %v): what is answered is what was handed in", l)
		}
		got, _ = Put(room[:3], l...)
		clear(room)
		if !bytes.Equal(got, keep) {
			t.Errorf("Put(.., %v): what was handed in is what is answered", l)
		}
	}
}

func TestP5_1PutTwiceBehindTheSame(t *testing.T) {
	b, _ := Put(nil, 1, 2, 3)
	one, _ := Put(b, 4)
	other, _ := Put(b, 5)
	if !bytes.Equal(b, []byte{1, 2, 3}) || !bytes.Equal(one, []byte{1, 2, 3, 4}) || !bytes.Equal(other, []byte{1, 2, 3, 5}) {
		t.Error(b, one, other)
	}
}

func TestP5_2NumberCases(t *testing.T) {
	for _, c := range said {
		for _, more := range behind {
			checkNumber(t, slices.Concat(c.b, more), c.n, len(c.b), api.OK)
		}
	}
}

func TestP5_2NumberOfWhatIsNone(t *testing.T) {
	for _, c := range bad {
		checkNumber(t, c.b, 0, 0, c.err)
	}
}

func TestP5_2NumberOfAllSortsOfBytes(t *testing.T) {
	for _, b := range texts() {
		n, size, err := wanted(b)
		checkNumber(t, b, n, size, err)
	}
}

func TestP5_2NumbersInARow(t *testing.T) {
	var all []byte
	for _, c := range said {
		all = append(all, c.b...)
	}
	r, left := New(all), len(all)
	for _, c := range said {
		checkState(t, c.n, r, left, api.OK, api.ErrForm)
		if n := r.Number(); n != c.n {
			t.Errorf("%d is read for %d", n, c.n)
		}
		left -= len(c.b)
	}
	checkState(t, "all", r, 0, api.OK, api.OK)
	if n := r.Number(); n != 0 {
		t.Errorf("%d is read at the end", n)
	}
	checkFailed(t, "all", r, api.ErrShort)
}

func TestP5_2NumbersUpToAnError(t *testing.T) {
	for _, c := range bad {
		for _, more := range behind {
			if len(more) > 0 && c.err == api.ErrShort {
				continue // not short any more
			}
			r := New(slices.Concat([]byte{172, 2, 0}, c.b, more))
			if r.Number() != 300 || r.Within(0, 0) != 0 || r.Err() != api.OK {
				t.Errorf("%v: what stands ahead isn't read", c.b)
			}
			checkState(t, c.b, r, len(c.b)+len(more), api.OK, endWith(len(c.b)+len(more)))
			if n := r.Number(); n != 0 {
				t.Errorf("%v is read as %d", c.b, n)
			}
			checkFailed(t, c.b, r, c.err)
		}
	}
}

// endWith is what End tells of so many bytes that are left, where nothing is wrong.
func endWith(left int) api.Errno {
	if left > 0 {
		return api.ErrForm
	}
	return api.OK
}

func TestP5_2EightAheadOfTheEnd(t *testing.T) {
	for size := range 20 {
		want := api.ErrShort
		if size >= 8 {
			want = api.ErrForm
		}
		for _, c := range []byte{128, 129, 200, 255} {
			checkNumber(t, bytes.Repeat([]byte{c}, size), 0, 0, want)
		}
	}
}

func TestP5_2OneOfEightIsTheLast(t *testing.T) {
	for place := range 8 {
		b := bytes.Repeat([]byte{129}, 8)
		b[place] = 1
		n, size, err := wanted(b)
		if ok := place < 7; (err == api.OK) != ok || ok && size != place+1 {
			t.Fatal(b, size, err)
		}
		checkNumber(t, b, n, size, err)
	}
}

func TestP5_2WithinCases(t *testing.T) {
	for _, c := range said {
		for _, lo := range bounds {
			for _, hi := range bounds {
				r := New(append(slices.Clone(c.b), 5))
				n := r.Within(lo, hi)
				if lo > c.n || c.n > hi {
					if n != 0 {
						t.Errorf("%d within %d and %d = %d", c.n, lo, hi, n)
					}
					checkFailed(t, c.n, r, api.ErrForm)
					continue
				}
				if n != c.n {
					t.Errorf("%d within %d and %d = %d", c.n, lo, hi, n)
				}
				checkState(t, c.n, r, 1, api.OK, api.ErrForm)
			}
		}
	}
}

func TestP5_2WithinAtItsBounds(t *testing.T) {
	for _, n := range numbers() {
		b := binary.AppendUvarint(nil, uint64(n))
		for _, c := range []struct {
			lo, hi int
			in     bool
		}{{n, n, true}, {n - 1, n, true}, {n, n + 1, true}, {n - 1, n - 1, false}, {n + 1, n + 1, false}, {n + 1, n - 1, false}, {n + 1, n, false}, {n, n - 1, false}} {
			r := New(b)
			want, wantErr := 0, api.ErrForm
			if c.in {
				want, wantErr = n, api.OK
			}
			if got := r.Within(c.lo, c.hi); got != want || r.Err() != wantErr {
				t.Errorf("%d within %d and %d = %d, %d", n, c.lo, c.hi, got, r.Err())
			}
		}
	}
}

func TestP5_2WithinOfWhatIsNoNumber(t *testing.T) {
	for _, c := range bad {
		for _, lo := range bounds {
			for _, hi := range bounds {
				r := New(c.b)
				if n := r.Within(lo, hi); n != 0 {
					t.Errorf("New(%v).Within(%d, %d) = %d", c.b, lo, hi, n)
				}
				checkState(t, c.b, r, 0, c.err, c.err) // the bytes' error, also where 0 isn't within
			}
		}
	}
}

func TestP5_2TheFirstErrorStays(t *testing.T) {
	r := New([]byte{5, 128})
	if r.Within(6, 7) != 0 {
		t.Error("5 is within 6 and 7")
	}
	checkFailed(t, "ErrForm, and short bytes behind it", r, api.ErrForm)
	r = New([]byte{128})
	r.Number()
	r.Within(1, 2)
	checkFailed(t, "ErrShort, and 0 isn't within", r, api.ErrShort)
}

func TestP5_2EndChangesNothing(t *testing.T) {
	r := New([]byte{1, 172, 2})
	if r.End() != api.ErrForm || r.End() != api.ErrForm || r.Err() != api.OK || r.Left() != 3 {
		t.Error(r.End(), r.Err(), r.Left())
	}
	if r.Number() != 1 || r.End() != api.ErrForm || r.Number() != 300 || r.End() != api.OK || r.Err() != api.OK {
		t.Error("what is left isn't read behind an End")
	}
}

func TestP5_2OfNothing(t *testing.T) {
	for _, b := range [][]byte{nil, {}} {
		checkState(t, "nothing", New(b), 0, api.OK, api.OK)
	}
}

func TestP5_2NewOfAllSortsOfBytes(t *testing.T) {
	for _, b := range texts() {
		checkState(t, b, New(b), len(b), api.OK, endWith(len(b)))
	}
}

func TestP5_2ReaderThatIsNone(t *testing.T) {
	var r *Reader
	for range 2 {
		checkState(t, "none", r, 0, api.ErrNil, api.ErrNil)
		if r.Number() != 0 || r.Within(0, 0) != 0 || r.Within(-1, math.MaxInt) != 0 || r.Within(1, 2) != 0 || r.Within(2, 1) != 0 {
			t.Error("a reader that is none reads")
		}
	}
}

func TestP5_2ReadingLeavesWhatIsHandedIn(t *testing.T) {
	b := []byte{172, 2, 7, 128, 0, 1}
	was := slices.Clone(b)
	r := New(b)
	for range b {
		r.Number()
	}
	if !bytes.Equal(b, was) {
		t.Errorf("%v is left", b)
	}
}

func TestP5_2ReaderKeepsNothingOfWhatIsHandedIn(t *testing.T) {
	b := []byte{172, 2, 7}
	r := New(b)
	clear(b)
	if n := r.Number(); n != 300 {
		t.Errorf("%d is read for 300", n)
	}
	copy(b, []byte{9, 9, 9})
	if n := r.Within(7, 7); n != 7 || r.End() != api.OK {
		t.Errorf("%d is read for 7", n)
	}
}

func TestP5_2ReadersOfTheSameBytes(t *testing.T) {
	b := []byte{172, 2, 7}
	one, other := New(b), New(b)
	one.Number()
	one.Number()
	one.Number()
	checkFailed(t, "one", one, api.ErrShort)
	checkState(t, "other", other, 3, api.OK, api.ErrForm)
	if n := other.Number(); n != 300 {
		t.Errorf("%d is read for 300", n)
	}
}

func TestP5_3ReadAsPut(t *testing.T) {
	l := numbers()
	b, err := Put(nil, l...)
	if err != api.OK {
		t.Fatal(err)
	}
	r := New(b)
	for _, n := range l {
		if got := r.Number(); got != n || r.Err() != api.OK {
			t.Fatalf("%d is read as %d, %d", n, got, r.Err())
		}
	}
	checkState(t, "all", r, 0, api.OK, api.OK)
}

func TestP5_3ReadOneByOne(t *testing.T) {
	for _, n := range numbers() {
		b, err := Put(nil, n)
		if err != api.OK {
			t.Fatalf("Put(%d): %d", n, err)
		}
		checkNumber(t, b, n, len(b), api.OK)
	}
}

func TestP5_3PutAsRead(t *testing.T) {
	read := 0
	for _, b := range texts() {
		var l []int
		r := New(b)
		for range b {
			if r.Left() > 0 {
				l = append(l, r.Number())
			}
		}
		if r.End() != api.OK {
			continue
		}
		read++
		checkPut(t, nil, l, b, api.OK)
	}
	if read < 1000 {
		t.Errorf("of all these bytes only %d were read", read)
	}
}
