package ask

import (
	"bytes"
	"encoding/binary"
	"math"
	"math/rand"
	"reflect"
	"slices"
	"testing"

	"drayage/api"
)

// far are numbers that nothing in a request may be: those that fewer bits would take for others are among them.
var far = []int{math.MinInt, math.MinInt + 1, -1<<48 - 1, -1 << 48, -1<<32 + 1, -1 << 32, -300, -2, -1, 1<<48 + 1, 1<<48 + 2, 1 << 49, 1<<56 + 1, 1 << 62, math.MaxInt - 1, math.MaxInt}

// spot is a number of a request, that some kinds have.
type spot struct {
	name string
	at   func(r *api.Request) *int
}

var spots = []spot{
	{"Job", func(r *api.Request) *int { return &r.Job }},
	{"Version", func(r *api.Request) *int { return &r.Version }},
	{"Queue", func(r *api.Request) *int { return &r.Queue }},
	{"Many", func(r *api.Request) *int { return &r.Many }},
	{"Cpu", func(r *api.Request) *int { return &r.Need.Cpu }},
	{"Mem", func(r *api.Request) *int { return &r.Need.Mem }},
	{"Gpu", func(r *api.Request) *int { return &r.Need.Gpu }},
	{"Lic", func(r *api.Request) *int { return &r.Need.Lic }},
	{"Wall", func(r *api.Request) *int { return &r.Wall }},
	{"Tasks", func(r *api.Request) *int { return &r.Tasks }},
	{"Node", func(r *api.Request) *int { return &r.Node }},
	{"From", func(r *api.Request) *int { return &r.From }},
	{"To", func(r *api.Request) *int { return &r.To }},
	{"Id", func(r *api.Request) *int { return &r.Id }},
}

// had is what each kind has, as the chapter lists it, in order.
var had = [13][]string{
	api.Submit:     {"Queue", "Many", "Cpu", "Mem", "Gpu", "Lic", "Wall", "Tasks"}, // and After
	api.Modify:     {"Job", "Version", "Many", "Cpu", "Mem", "Gpu", "Lic", "Wall"},
	api.Hold:       {"Job", "Version"},
	api.Release:    {"Job", "Version"},
	api.Cancel:     {"Job", "Version"},
	api.Requeue:    {"Job", "Version"},
	api.Move:       {"Job", "Version", "Queue"},
	api.QueryJob:   {"Job"},
	api.QueryQueue: {"Queue"},
	api.QueryNodes: {},
	api.Reserve:    {"Node", "From", "To"},
	api.Unreserve:  {"Id"},
}

// spotOf is the spot of that name.
func spotOf(name string) spot {
	for _, s := range spots {
		if s.name == name {
			return s
		}
	}
	panic(name)
}

// said are requests with their bytes, written by hand.
var said = []struct {
	r api.Request
	b []byte
}{
	{api.Request{Kind: api.Hold, Key: 1, Job: 3}, []byte{3, 1, 3, 0}}, // the chapter's example
	{api.Request{Kind: api.Submit, Key: 1}, []byte{1, 1, 0, 0, 0, 0, 0, 0, 0, 0, 0}},
	{api.Request{Kind: api.Submit, Key: 2, Queue: 3, Many: 4, Need: api.Res{Cpu: 5, Mem: 6, Gpu: 7, Lic: 8}, Wall: 9, Tasks: 10}, []byte{1, 2, 3, 4, 5, 6, 7, 8, 9, 10, 0}},
	{api.Request{Kind: api.Submit, Key: 2, Queue: 3, Many: 4, Need: api.Res{Cpu: 5, Mem: 6, Gpu: 7, Lic: 8}, Wall: 9, Tasks: 10, After: []api.Dep{{Job: 11, Ok: true}, {Job: 12}}}, []byte{1, 2, 3, 4, 5, 6, 7, 8, 9, 10, 2, 11, 1, 12, 0}},
	{api.Request{Kind: api.Submit, Key: 300, Queue: 128, After: []api.Dep{{}, {Job: 300}, {Ok: true}, {Job: 300, Ok: true}}}, []byte{1, 172, 2, 128, 1, 0, 0, 0, 0, 0, 0, 0, 4, 0, 0, 172, 2, 0, 0, 1, 172, 2, 1}},
	{api.Request{Kind: api.Modify, Key: 2, Job: 3, Version: 4, Many: 5, Need: api.Res{Cpu: 6, Mem: 7, Gpu: 8, Lic: 9}, Wall: 10}, []byte{2, 2, 3, 4, 5, 6, 7, 8, 9, 10}},
	{api.Request{Kind: api.Hold, Key: 2, Job: 3, Version: 4}, []byte{3, 2, 3, 4}},
	{api.Request{Kind: api.Release, Key: 2, Job: 3, Version: 300}, []byte{4, 2, 3, 172, 2}},
	{api.Request{Kind: api.Cancel, Key: 1 << 30, Job: 1 << 48, Version: 4}, []byte{5, 128, 128, 128, 128, 4, 128, 128, 128, 128, 128, 128, 64, 4}},
	{api.Request{Kind: api.Requeue, Key: 2, Job: 3, Version: 4}, []byte{6, 2, 3, 4}},
	{api.Request{Kind: api.Move, Key: 2, Job: 3, Version: 4, Queue: 5}, []byte{7, 2, 3, 4, 5}},
	{api.Request{Kind: api.QueryJob, Key: 2, Job: 3}, []byte{8, 2, 3}},
	{api.Request{Kind: api.QueryQueue, Key: 2, Queue: 3}, []byte{9, 2, 3}},
	{api.Request{Kind: api.QueryNodes, Key: 2}, []byte{10, 2}},
	{api.Request{Kind: api.Reserve, Key: 2, Node: 3, From: 4, To: 5}, []byte{11, 2, 3, 4, 5}},
	{api.Request{Kind: api.Unreserve, Key: 2, Id: 3}, []byte{12, 2, 3}},
}

// long is the bytes of 2^48.
var long = []byte{128, 128, 128, 128, 128, 128, 64}

// bad are bytes that no request has, and what is wrong with them first, written by hand.
var bad = []struct {
	b   []byte
	err api.Errno
}{
	{nil, api.ErrShort}, {[]byte{}, api.ErrShort}, {[]byte{128}, api.ErrShort}, {[]byte{129}, api.ErrShort}, {[]byte{255, 255}, api.ErrShort}, // no Kind
	{[]byte{129, 0}, api.ErrForm}, {[]byte{138, 0, 1}, api.ErrForm}, {[]byte{141, 0}, api.ErrForm}, {bytes.Repeat([]byte{128}, 8), api.ErrForm}, {append([]byte{129}, long[1:]...), api.ErrForm}, // no number
	{[]byte{0}, api.ErrKind}, {[]byte{13}, api.ErrKind}, {[]byte{0, 1}, api.ErrKind}, {[]byte{13, 1}, api.ErrKind}, {[]byte{13, 0}, api.ErrKind}, {[]byte{127, 1}, api.ErrKind}, {[]byte{128, 1, 1}, api.ErrKind}, {[]byte{129, 2, 1}, api.ErrKind}, {[]byte{138, 128, 4, 1}, api.ErrKind}, {long, api.ErrKind}, {[]byte{129, 128, 128, 128, 16, 1}, api.ErrKind}, // numbers that are no Kind
	{[]byte{13, 128}, api.ErrKind}, {[]byte{13, 128, 0}, api.ErrKind}, {append([]byte{0}, bytes.Repeat([]byte{255}, 9)...), api.ErrKind}, // worse behind it
	{[]byte{10}, api.ErrShort}, {[]byte{1}, api.ErrShort}, {[]byte{3, 129}, api.ErrShort}, {[]byte{10, 255, 255}, api.ErrShort}, // no Key
	{[]byte{10, 129, 0}, api.ErrForm}, {[]byte{10, 0}, api.ErrForm}, {[]byte{3, 0}, api.ErrForm}, {[]byte{1, 0}, api.ErrForm}, {[]byte{3, 0, 128}, api.ErrForm}, {[]byte{10, 129, 128, 128, 128, 4}, api.ErrForm}, {[]byte{3, 129, 128, 128, 128, 4}, api.ErrForm}, {append([]byte{10}, long...), api.ErrForm}, {[]byte{10, 129, 128, 128, 128, 16}, api.ErrForm}, // Keys that may not be
	{[]byte{3, 1}, api.ErrShort}, {[]byte{3, 1, 3}, api.ErrShort}, {[]byte{3, 1, 3, 128}, api.ErrShort}, {[]byte{3, 1, 131, 0}, api.ErrForm}, {[]byte{3, 1, 131, 0, 0}, api.ErrForm}, {append([]byte{3, 1, 129}, long[1:]...), api.ErrForm}, {append([]byte{3, 1, 3}, bytes.Repeat([]byte{128}, 8)...), api.ErrForm},
	{[]byte{1, 1, 0, 0, 0, 0, 0, 0, 0, 0}, api.ErrShort}, {[]byte{1, 1, 0, 0, 0, 0, 0, 0, 0, 0, 1}, api.ErrShort}, {[]byte{1, 1, 0, 0, 0, 0, 0, 0, 0, 0, 1, 3}, api.ErrShort}, {[]byte{1, 1, 0, 0, 0, 0, 0, 0, 0, 0, 2, 3, 1}, api.ErrShort}, {[]byte{1, 1, 0, 0, 0, 0, 0, 0, 0, 0, 2, 3, 1, 4, 128}, api.ErrShort},
	{[]byte{1, 1, 0, 0, 0, 0, 0, 0, 0, 0, 5}, api.ErrForm}, {[]byte{1, 1, 0, 0, 0, 0, 0, 0, 0, 0, 5, 1, 0, 1, 0, 1, 0, 1, 0, 1, 0}, api.ErrForm}, {[]byte{1, 1, 0, 0, 0, 0, 0, 0, 0, 0, 127}, api.ErrForm}, {append([]byte{1, 1, 0, 0, 0, 0, 0, 0, 0, 0}, long...), api.ErrForm}, {[]byte{1, 1, 0, 0, 0, 0, 0, 0, 0, 0, 129, 128, 128, 128, 16, 3, 1}, api.ErrForm}, // too many
	{[]byte{1, 1, 0, 0, 0, 0, 0, 0, 0, 0, 1, 3, 2}, api.ErrForm}, {[]byte{1, 1, 0, 0, 0, 0, 0, 0, 0, 0, 1, 3, 127}, api.ErrForm}, {[]byte{1, 1, 0, 0, 0, 0, 0, 0, 0, 0, 2, 3, 2}, api.ErrForm}, {[]byte{1, 1, 0, 0, 0, 0, 0, 0, 0, 0, 1, 3, 129, 2}, api.ErrForm}, {[]byte{1, 1, 0, 0, 0, 0, 0, 0, 0, 0, 2, 3, 2, 128}, api.ErrForm}, // no Ok
	{[]byte{10, 1, 1}, api.ErrForm}, {[]byte{10, 1, 128}, api.ErrForm}, {[]byte{10, 1, 0}, api.ErrForm}, {[]byte{3, 1, 3, 0, 0}, api.ErrForm}, {[]byte{7, 1, 3, 0, 0, 0}, api.ErrForm}, {[]byte{2, 2, 3, 4, 5, 6, 7, 8, 9, 10, 0}, api.ErrForm}, {[]byte{1, 1, 0, 0, 0, 0, 0, 0, 0, 0, 0, 0}, api.ErrForm}, {[]byte{1, 1, 0, 0, 0, 0, 0, 0, 0, 0, 1, 3, 1, 0}, api.ErrForm}, {append([]byte{3, 1, 3, 0}, make([]byte, 1<<16)...), api.ErrForm}, // something is left
}

// least is a kind's request of which all but the Key is 0.
func least(kind int) api.Request {
	return api.Request{Kind: kind, Key: 1}
}

// largest is a kind's request of which no number may be above what it is.
func largest(kind int) api.Request {
	r := api.Request{Kind: kind, Key: 1 << 30}
	for _, name := range had[kind] {
		*spotOf(name).at(&r) = 1 << 48
	}
	if kind == api.Submit {
		r.After = []api.Dep{{Job: 1 << 48, Ok: true}, {Job: 1 << 48, Ok: true}, {Job: 1 << 48, Ok: true}, {Job: 1 << 48, Ok: true}}
	}
	return r
}

// drawnNumber is one of few digits as often as one of many.
func drawnNumber(drawn *rand.Rand, most int) int {
	return int(drawn.Int63n(int64(most)+1) >> drawn.Intn(49))
}

// drawnOne is any right request.
func drawnOne(drawn *rand.Rand) api.Request {
	r := api.Request{Kind: 1 + drawn.Intn(12), Key: 1 + drawnNumber(drawn, 1<<30-1)}
	for _, name := range had[r.Kind] {
		*spotOf(name).at(&r) = drawnNumber(drawn, 1<<48)
	}
	if r.Kind == api.Submit {
		for range drawn.Intn(5) {
			r.After = append(r.After, api.Dep{Job: drawnNumber(drawn, 1<<48), Ok: drawn.Intn(2) == 1})
		}
	}
	return r
}

// rights are many right requests.
func rights() []api.Request {
	var l []api.Request
	for _, c := range said {
		l = append(l, c.r)
	}
	for kind := 1; kind <= 12; kind++ {
		l = append(l, least(kind), largest(kind))
	}
	drawn := rand.New(rand.NewSource(8))
	for range 4000 {
		l = append(l, drawnOne(drawn))
	}
	return l
}

// wrongs are many requests that are not right.
func wrongs() []api.Request {
	l := []api.Request{{}, {Key: 1}, {Kind: 13, Key: 1}}
	for kind := 1; kind <= 12; kind++ {
		for _, base := range []api.Request{least(kind), largest(kind)} {
			l = append(l, wrongOnes(base)...)
		}
	}
	for _, n := range append([]int{0, 13, 14, 1 << 32, 1<<32 + 3}, far...) {
		l = append(l, api.Request{Kind: n, Key: 1})
	}
	return l
}

// wrongOnes are those that one thing tells from a right one.
func wrongOnes(base api.Request) []api.Request {
	var l []api.Request
	for _, n := range append([]int{0, 1<<30 + 1, 1 << 31, 1 << 32, 1<<32 + 1, 1 << 48}, far...) {
		r := base
		r.Key = n
		l = append(l, r)
	}
	for _, s := range spots {
		bad := far
		if !slices.Contains(had[base.Kind], s.name) {
			bad = append([]int{1, 2, 1 << 32, 1 << 48}, far...)
		}
		for _, n := range bad {
			r := base
			*s.at(&r) = n
			l = append(l, r)
		}
	}
	for _, after := range wrongAfters(base.Kind) {
		r := base
		r.After = after
		l = append(l, r)
	}
	return l
}

// wrongAfters are those that a kind may not have.
func wrongAfters(kind int) [][]api.Dep {
	l := [][]api.Dep{make([]api.Dep, 5), make([]api.Dep, 6), make([]api.Dep, 1<<16)}
	if kind != api.Submit {
		l = append(l, make([]api.Dep, 1), make([]api.Dep, 4), []api.Dep{{Job: 1, Ok: true}})
	}
	for _, n := range far {
		l = append(l, []api.Dep{{Job: n}}, []api.Dep{{Job: n, Ok: true}}, []api.Dep{{Job: 1}, {Job: 1}, {Job: 1}, {Job: n}}, []api.Dep{{Job: n}, {Job: 1}})
	}
	return l
}

// clone is a request that shares nothing with r.
func clone(r api.Request) api.Request {
	r.After = slices.Clone(r.After)
	return r
}

// same is whether two requests are the same, but that a list without an element may be nil.
func same(a, b api.Request) bool {
	if len(a.After) == 0 && len(b.After) == 0 {
		a.After, b.After = nil, nil
	}
	return reflect.DeepEqual(a, b)
}

// taker takes numbers off bytes, by the library's own reader of such digits, till something is wrong.
type taker struct {
	b   []byte
	err api.Errno
}

func (k *taker) take(lo, hi int, wrong api.Errno) int {
	if k.err != api.OK {
		return 0
	}
	last := slices.IndexFunc(k.b, func(c byte) bool { return c < 128 })
	if last < 0 && len(k.b) < 8 {
		k.err = api.ErrShort
		return 0
	}
	if last < 0 || last >= 8 {
		k.err = api.ErrForm
		return 0
	}
	n, size := binary.Uvarint(k.b[:last+1])
	if n > 1<<48 || !bytes.Equal(binary.AppendUvarint(nil, n), k.b[:size]) {
		k.err = api.ErrForm
		return 0
	}
	if int(n) < lo || int(n) > hi {
		k.err = wrong
		return 0
	}
	k.b = k.b[size:]
	return int(n)
}

// wanted is what bytes are to be read as.
func wanted(b []byte) (api.Request, api.Errno) {
	k := &taker{b: b}
	r := api.Request{Kind: k.take(1, 12, api.ErrKind)}
	r.Key = k.take(1, 1<<30, api.ErrForm)
	for _, name := range had[r.Kind] {
		*spotOf(name).at(&r) = k.take(0, 1<<48, api.ErrForm)
	}
	if r.Kind == api.Submit {
		for range k.take(0, 4, api.ErrForm) {
			var d api.Dep
			d.Job = k.take(0, 1<<48, api.ErrForm)
			d.Ok = k.take(0, 1, api.ErrForm) == 1
			r.After = append(r.After, d)
		}
	}
	if k.err == api.OK && len(k.b) > 0 {
		k.err = api.ErrForm
	}
	if k.err != api.OK {
		return api.Request{}, k.err
	}
	return r, api.OK
}

func checkWrite(t *testing.T, r api.Request, want []byte, wantErr api.Errno) {
	t.Helper()
	before := clone(r)
	if got, err := Write(r); !bytes.Equal(got, want) || err != wantErr {
		t.Errorf("Write(%v) = %v, %d, want %v, %d", r, got, err, want, wantErr)
	}
	if !same(r, before) {
		t.Errorf("%v was changed to %v", before, r)
	}
}

func checkRead(t *testing.T, b []byte, want api.Request, wantErr api.Errno) {
	t.Helper()
	before := slices.Clone(b)
	if got, err := Read(b); !same(got, want) || err != wantErr {
		t.Errorf("Read(%v) = %v, %d, want %v, %d", b, got, err, want, wantErr)
	}
	if !bytes.Equal(b, before) {
		t.Errorf("%v was changed to %v", before, b)
	}
}

func TestP8_1RightOnes(t *testing.T) {
	for _, r := range rights() {
		if !Right(r) {
			t.Errorf("%v isn't right", r)
		}
	}
}

func TestP8_1RightOfEachNumberInItsBounds(t *testing.T) {
	for kind := 1; kind <= 12; kind++ {
		for _, n := range []int{1, 2, 127, 128, 1<<30 - 1, 1 << 30} {
			if !Right(api.Request{Kind: kind, Key: n}) {
				t.Errorf("kind %d, Key %d isn't right", kind, n)
			}
		}
		for _, name := range had[kind] {
			for _, n := range []int{0, 1, 1 << 20, 1<<20 + 1, 1 << 32, 1<<48 - 1, 1 << 48} {
				r := least(kind)
				*spotOf(name).at(&r) = n
				if !Right(r) {
					t.Errorf("kind %d, %s %d isn't right", kind, name, n)
				}
			}
		}
	}
}

func TestP8_1RightOfAfter(t *testing.T) {
	for size := range 5 {
		r := least(api.Submit)
		r.After = make([]api.Dep, size)
		if !Right(r) {
			t.Errorf("After of %d isn't right", size)
		}
	}
	for kind := 1; kind <= 12; kind++ {
		r := least(kind)
		r.After = []api.Dep{} // as good as none
		if !Right(r) {
			t.Errorf("kind %d with an empty After isn't right", kind)
		}
	}
}

func TestP8_1RightOfWhatIsNot(t *testing.T) {
	for _, r := range wrongs() {
		if Right(r) {
			t.Errorf("%v is right", r)
		}
	}
}

func TestP8_1RightLeavesWhatIsHandedIn(t *testing.T) {
	for _, r := range append(rights(), wrongs()...) {
		before := clone(r)
		if Right(r); !same(r, before) {
			t.Fatalf("%v was changed to %v", before, r)
		}
	}
}

func TestP8_1WriteCases(t *testing.T) {
	for _, c := range said {
		checkWrite(t, c.r, c.b, api.OK)
	}
}

func TestP8_1WriteOfAllNumbersInTheirOrder(t *testing.T) {
	for kind := 1; kind <= 12; kind++ {
		r, want := api.Request{Kind: kind, Key: 100}, []byte{byte(kind), 100}
		for i, name := range had[kind] {
			*spotOf(name).at(&r) = i + 101
			want = append(want, byte(i+101))
		}
		if kind == api.Submit {
			want = append(want, 0)
		}
		checkWrite(t, r, want, api.OK)
	}
}

func TestP8_1WriteOfTheLargest(t *testing.T) {
	for kind := 1; kind <= 12; kind++ {
		want := []byte{byte(kind), 128, 128, 128, 128, 4}
		for range had[kind] {
			want = append(want, long...)
		}
		if kind == api.Submit {
			want = append(want, 4)
			for range 4 {
				want = append(append(want, long...), 1)
			}
		}
		checkWrite(t, largest(kind), want, api.OK)
	}
}

func TestP8_1WriteOfEmptyAfter(t *testing.T) {
	checkWrite(t, api.Request{Kind: api.QueryNodes, Key: 2, After: []api.Dep{}}, []byte{10, 2}, api.OK)
	checkWrite(t, api.Request{Kind: api.Submit, Key: 2, After: []api.Dep{}}, []byte{1, 2, 0, 0, 0, 0, 0, 0, 0, 0, 0}, api.OK)
}

func TestP8_1WriteOfWhatIsNotRight(t *testing.T) {
	for _, r := range wrongs() {
		checkWrite(t, r, nil, api.ErrArg)
	}
}

func TestP8_1WriteAnswersNewMemory(t *testing.T) {
	for _, c := range said {
		b, _ := Write(c.r)
		clear(b[:cap(b)])
		checkWrite(t, c.r, c.b, api.OK)
	}
}

func TestP8_1SameOfTheSame(t *testing.T) {
	for _, r := range append(rights(), wrongs()...) {
		if !Same(r, clone(r)) {
			t.Errorf("%v isn't the same as itself", r)
		}
	}
}

func TestP8_1SameOfAllSortsOfPairs(t *testing.T) {
	l := append(rights()[:80], wrongs()[:300]...)
	for _, a := range l {
		for _, b := range l {
			if Same(a, b) != same(a, b) {
				t.Errorf("Same(%v, %v) = %v", a, b, Same(a, b))
			}
		}
	}
}

func TestP8_1SameOfWhatOneNumberTells(t *testing.T) {
	every := append([]spot{{"Kind", func(r *api.Request) *int { return &r.Kind }}, {"Key", func(r *api.Request) *int { return &r.Key }}}, spots...)
	for _, r := range append(rights()[:100], wrongs()...) { // what its kind hasn't tells it, too
		for _, s := range every {
			for _, bit := range []int{1, 1 << 32, 1 << 50, math.MinInt} {
				other := clone(r)
				*s.at(&other) ^= bit
				if Same(r, other) || Same(other, r) {
					t.Fatalf("%v is the same as %v, which has another %s", r, other, s.name)
				}
			}
		}
	}
}

func TestP8_1SameOfAfter(t *testing.T) {
	afters := [][]api.Dep{nil, {{}}, {{Ok: true}}, {{Job: 1}}, {{Job: 1, Ok: true}}, {{Job: 2}}, {{Job: 1}, {Job: 2}}, {{Job: 2}, {Job: 1}}, {{Job: 1}, {Job: 1}}, {{Job: 1}, {Job: 2, Ok: true}}, {{Job: 1}, {Job: 2}, {Job: 3}}, make([]api.Dep, 4), make([]api.Dep, 5), {{Job: -1}}}
	for _, kind := range []int{api.Submit, api.Hold, 0} {
		for i, a := range afters {
			for j, b := range afters {
				x, y := api.Request{Kind: kind, Key: 1, After: a}, api.Request{Kind: kind, Key: 1, After: slices.Clone(b)}
				if Same(x, y) != (i == j) {
					t.Errorf("Same(%v, %v) = %v", x, y, i != j)
				}
			}
		}
		none, empty := api.Request{Kind: kind, Key: 1}, api.Request{Kind: kind, Key: 1, After: []api.Dep{}}
		if !Same(none, empty) || !Same(empty, none) {
			t.Error("a list without an element isn't the same as none")
		}
	}
}

func TestP8_1Query(t *testing.T) {
	queries := []int{8, 9, 10}
	for kind := -20; kind <= 300; kind++ {
		if Query(kind) != slices.Contains(queries, kind) {
			t.Errorf("Query(%d) = %v", kind, Query(kind))
		}
	}
	for _, kind := range append([]int{1<<32 + 8, 1<<32 + 9, -1<<32 + 10}, far...) {
		if Query(kind) {
			t.Errorf("%d is a query", kind)
		}
	}
}

func TestP8_2ReadCases(t *testing.T) {
	for _, c := range said {
		checkRead(t, c.b, c.r, api.OK)
	}
}

func TestP8_2ReadOfWhatIsNone(t *testing.T) {
	for _, c := range bad {
		checkRead(t, c.b, api.Request{}, c.err)
	}
}

func TestP8_2ReadOfWhatIsCutShort(t *testing.T) {
	for _, c := range said {
		for size := range c.b {
			checkRead(t, c.b[:size], api.Request{}, api.ErrShort)
		}
	}
	for kind := 1; kind <= 12; kind++ {
		b, _ := Write(largest(kind))
		for size := range b {
			checkRead(t, b[:size], api.Request{}, api.ErrShort)
		}
	}
}

func TestP8_2ReadWithSomethingLeft(t *testing.T) {
	for _, c := range said {
		for _, more := range [][]byte{{0}, {1}, {128}, {255}, {0, 0}, {128, 0}, c.b, bytes.Repeat([]byte{255}, 20)} {
			checkRead(t, slices.Concat(c.b, more), api.Request{}, api.ErrForm)
		}
	}
}

func TestP8_2ReadOfKindsThatAreNone(t *testing.T) {
	for _, n := range []uint64{0, 13, 14, 127, 128, 129, 255, 256, 257, 266, 1 << 16, 1<<16 + 1, 1 << 32, 1<<32 + 3, 1<<48 - 1, 1 << 48} {
		for _, more := range [][]byte{nil, {1}, {0}, {128}, {1, 3, 0}, {128, 0}, bytes.Repeat([]byte{255}, 10)} {
			checkRead(t, append(binary.AppendUvarint(nil, n), more...), api.Request{}, api.ErrKind)
		}
	}
}

func TestP8_2ReadOfKeysAtTheirBounds(t *testing.T) {
	for _, c := range said {
		rest := c.b[1+len(binary.AppendUvarint(nil, uint64(c.r.Key))):]
		for _, n := range []int{0, 1, 2, 127, 128, 1<<30 - 1, 1 << 30, 1<<30 + 1, 1 << 32, 1<<32 + 1, 1 << 48} {
			b := slices.Concat(c.b[:1], binary.AppendUvarint(nil, uint64(n)), rest)
			if n < 1 || n > 1<<30 {
				checkRead(t, b, api.Request{}, api.ErrForm)
				checkRead(t, append(b, 128), api.Request{}, api.ErrForm) // worse behind it: ErrForm stands ahead
				checkRead(t, b[:len(b)-len(rest)], api.Request{}, api.ErrForm)
				continue
			}
			r := c.r
			r.Key = n
			checkRead(t, b, r, api.OK)
		}
	}
}

func TestP8_2ReadTellsBytesFromTheirNeighbours(t *testing.T) {
	read := 0
	for _, c := range said {
		for _, b := range changed(c.b) {
			want, err := wanted(b)
			checkRead(t, b, want, err)
			if err == api.OK {
				read++
			}
		}
	}
	if read < 1000 {
		t.Errorf("of all these bytes only %d are to be read", read)
	}
}

// changed are bytes with each of them left out, doubled, replaced by any other, and with some ahead of it.
func changed(b []byte) [][]byte {
	var l [][]byte
	for i := range b {
		l = append(l, slices.Concat(b[:i], b[i+1:]), slices.Concat(b[:i+1], b[i:]))
		for c := range 1 << 8 {
			l = append(l, slices.Concat(b[:i], []byte{byte(c)}, b[i+1:]))
		}
		for _, c := range []byte{0, 1, 2, 3, 4, 5, 127, 128, 129, 255} {
			l = append(l, slices.Concat(b[:i], []byte{c}, b[i:]))
		}
	}
	return l
}

func TestP8_2ReadOfAllSortsOfBytes(t *testing.T) {
	drawn := rand.New(rand.NewSource(82))
	some := []byte{0, 1, 2, 3, 4, 5, 7, 9, 10, 12, 13, 64, 127, 128, 129, 255}
	for range 200000 {
		b := make([]byte, drawn.Intn(20))
		for i := range b {
			b[i] = some[drawn.Intn(len(some))]
		}
		want, err := wanted(b)
		checkRead(t, b, want, err)
	}
}

func TestP8_2ReadAnswersNewMemory(t *testing.T) {
	b := []byte{1, 2, 3, 4, 5, 6, 7, 8, 9, 10, 2, 11, 1, 12, 0}
	one, _ := Read(b)
	other, _ := Read(b)
	clear(b)
	clear(one.After[:cap(one.After)])
	if !slices.Equal(other.After, []api.Dep{{Job: 11, Ok: true}, {Job: 12}}) {
		t.Errorf("After is changed to %v", other.After)
	}
}

func TestP8_3ReadAsWritten(t *testing.T) {
	for _, r := range rights() {
		b, err := Write(r)
		if err != api.OK {
			t.Fatalf("Write(%v): %d", r, err)
		}
		checkRead(t, b, r, api.OK)
		if got, err := Read(b); !Same(got, r) || err != api.OK {
			t.Errorf("%v is read as %v, %d", r, got, err)
		}
	}
}

func TestP8_3WrittenAsRead(t *testing.T) {
	read := 0
	var l [][]byte
	for _, c := range said {
		l = append(l, changed(c.b)...)
	}
	for _, b := range l {
		r, err := Read(b)
		if err != api.OK {
			continue
		}
		read++
		if !Right(r) {
			t.Errorf("%v is read of %v, and isn't right", r, b)
		}
		checkWrite(t, r, b, api.OK)
	}
	if read < 1000 {
		t.Errorf("of all these bytes only %d were read", read)
	}
}

func TestP8_3BytesAreALoad(t *testing.T) {
	for _, r := range rights() {
		if b, err := Write(r); err != api.OK || len(b) < 1 || len(b) > 240 {
			t.Errorf("Write(%v) = %d bytes, %d", r, len(b), err)
		}
	}
}
