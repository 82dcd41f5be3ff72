package steps

import (
	"math"
	"math/rand"
	"slices"
	"testing"

	"drayage/api"
)

const (
	mostRes  = 1 << 20
	mostTime = 1 << 48
)

// far are numbers that are neither a time nor one of a right vector: those that fewer bits would take for others are among them.
var far = []int{math.MinInt, math.MinInt + 1, -1<<48 - 1, -1 << 48, -1<<32 + 1, -1 << 32, -300, -2, -1, 1<<48 + 1, 1<<48 + 2, 1 << 49, 1<<56 + 1, 1 << 62, math.MaxInt - 1, math.MaxInt}

// late are times beyond all that may stand in a step function.
var late = []int{1<<48 + 1, 1<<48 + 2, 1 << 49, 1 << 62, math.MaxInt - 1, math.MaxInt}

func res(cpu, mem, gpu, lic int) api.Res {
	return api.Res{Cpu: cpu, Mem: mem, Gpu: gpu, Lic: lic}
}

func cpu(n int) api.Res { return api.Res{Cpu: n} }

func step(at int, free api.Res) api.Step { return api.Step{At: at, Free: free} }

// ofCpu is a list of steps by pairs: a time, and how many cpu are free from then on.
func ofCpu(pairs ...int) []api.Step {
	var l []api.Step
	for i := 0; i < len(pairs); i += 2 {
		l = append(l, step(pairs[i], cpu(pairs[i+1])))
	}
	return l
}

// spot is one of a vector's numbers.
type spot struct {
	name string
	of   func(a *api.Res) *int
}

var spots = []spot{
	{"Cpu", func(a *api.Res) *int { return &a.Cpu }},
	{"Mem", func(a *api.Res) *int { return &a.Mem }},
	{"Gpu", func(a *api.Res) *int { return &a.Gpu }},
	{"Lic", func(a *api.Res) *int { return &a.Lic }},
}

// with is a with another number at the spot.
func (s spot) with(a api.Res, n int) api.Res {
	*s.of(&a) = n
	return a
}

var largestRes = res(mostRes, mostRes, mostRes, mostRes)

// wrongRes are vectors that aren't right by one number.
func wrongRes() []api.Res {
	var l []api.Res
	for _, base := range []api.Res{{}, res(1, 2, 3, 4), largestRes} {
		for _, s := range spots {
			for _, n := range append([]int{mostRes + 1, mostRes + 2, mostRes + 1<<32, 1 << 32, 1 << 48}, far...) {
				l = append(l, s.with(base, n))
			}
		}
	}
	return l
}

// fixed are step functions, written by hand.
func fixed() [][]api.Step {
	return [][]api.Step{
		ofCpu(0, 4),
		ofCpu(0, 0),
		ofCpu(7, 0),
		ofCpu(mostTime, 4),
		ofCpu(mostTime-1, 4, mostTime, 3),
		ofCpu(0, 4, mostTime, 0),
		ofCpu(0, 4, 1, 4),
		ofCpu(0, 4, 2, 1, 5, 4),
		ofCpu(0, 4, 2, 4, 5, 4, 6, 4),
		ofCpu(3, 1, 4, 1, 5, 2, 6, 2, 7, 1),
		ofCpu(0, 1, 1<<32, 2, 1<<32+1, 2, mostTime-1, 2),
		{step(1, largestRes), step(2, api.Res{}), step(9, largestRes)},
		{step(1, res(1, 2, 3, 4)), step(2, res(1, 2, 3, 5)), step(3, res(1, 2, 4, 5)), step(4, res(1, 3, 4, 5)), step(5, res(2, 3, 4, 5))},
		{step(1, res(1, 0, 0, 0)), step(2, res(0, 1, 0, 0)), step(3, res(0, 0, 1, 0)), step(4, res(0, 0, 0, 1))},
	}
}

// drawnRes is a right vector of few different ones, or one at the bounds.
func drawnRes(drawn *rand.Rand) api.Res {
	var a api.Res
	for _, s := range spots {
		n := drawn.Intn(4)
		if drawn.Intn(20) == 0 {
			n = mostRes - drawn.Intn(3)
		}
		*s.of(&a) = n
	}
	return a
}

// drawnSteps is a step function of at most 8 steps, with neighbours that are alike as often as not.
func drawnSteps(drawn *rand.Rand) []api.Step {
	at := []int{0, 0, 3, 1<<32 - 4, mostTime - 12}[drawn.Intn(5)]
	var l []api.Step
	free := drawnRes(drawn)
	for range 1 + drawn.Intn(8) {
		if drawn.Intn(2) == 0 {
			free = drawnRes(drawn)
		}
		l = append(l, step(at, free))
		at += 1 + drawn.Intn(3)
		if at > mostTime {
			break
		}
	}
	return l
}

// rights are many step functions.
func rights() [][]api.Step {
	l := fixed()
	drawn := rand.New(rand.NewSource(10))
	for range 300 {
		l = append(l, drawnSteps(drawn))
	}
	return l
}

// wrongs are many lists that are no step functions.
func wrongs() [][]api.Step {
	l := [][]api.Step{
		nil, {},
		ofCpu(-1, 4), ofCpu(mostTime+1, 4), ofCpu(-1, 4, 0, 4),
		ofCpu(0, 4, 0, 4), ofCpu(0, 4, 0, 3), ofCpu(1, 4, 0, 3), ofCpu(0, 4, 2, 3, 1, 4), ofCpu(0, 4, 2, 3, 2, 4), ofCpu(0, 4, 5, 3, 2, 4, 7, 2), ofCpu(0, 4, 2, 3, 0, 4),
		ofCpu(mostTime, 4, mostTime, 3), ofCpu(mostTime, 4, mostTime-1, 3), ofCpu(mostTime, 4, mostTime+1, 3),
	}
	for _, n := range far {
		l = append(l, ofCpu(n, 4), ofCpu(n, 4, n, 3), ofCpu(0, 4, n, 3), ofCpu(n, 4, 5, 3), ofCpu(0, 4, n, 3, 5, 4), ofCpu(0, 4, 5, 3, n, 2))
	}
	for _, a := range wrongRes() {
		l = append(l, []api.Step{step(0, a)}, []api.Step{step(0, a), step(1, cpu(1))}, []api.Step{step(0, cpu(1)), step(1, a)}, []api.Step{step(0, cpu(1)), step(1, a), step(2, cpu(1))})
	}
	return l
}

// freeAt is what is free at t by the words: that of the last step whose At isn't above t; none, ahead of the first.
func freeAt(l []api.Step, t int) api.Res {
	for _, s := range slices.Backward(l) {
		if s.At <= t {
			return s.Free
		}
	}
	return api.Res{}
}

// times are those at which something may change: steps' beginnings and the others named, in order, each once, none ahead of the first step.
func times(l []api.Step, others ...int) []int {
	var ts []int
	for _, s := range l {
		ts = append(ts, s.At)
	}
	for _, t := range others {
		if t >= l[0].At {
			ts = append(ts, t)
		}
	}
	slices.Sort(ts)
	return slices.Compact(ts)
}

// probes are times at which, just ahead of which and just behind which something may change, and some far off.
func probes(l []api.Step, others ...int) []int {
	ts := slices.Clone(far)
	for _, s := range l {
		others = append(others, s.At)
	}
	for _, t := range others {
		for d := -1; d <= 1; d++ {
			ts = append(ts, t+d)
		}
	}
	return append(ts, 0, 1, mostTime-1, mostTime)
}

// wantedLeast is the least by the words, of each number by itself.
func wantedLeast(l []api.Step, from, to int) api.Res {
	if from < l[0].At || to <= from {
		return api.Res{}
	}
	least := freeAt(l, from)
	for _, t := range times(l) {
		for _, s := range spots {
			a := freeAt(l, t)
			if t > from && t < to && *s.of(&a) < *s.of(&least) {
				*s.of(&least) = *s.of(&a)
			}
		}
	}
	return least
}

// wantedChange is what comes of taking, with a sign of -1, or of giving, with 1, in a step function, within times that may be, of a right need.
func wantedChange(l []api.Step, from, to int, need api.Res, sign int) ([]api.Step, api.Errno) {
	var want []api.Step
	for _, t := range times(l, from, to) {
		free := freeAt(l, t)
		for _, s := range spots {
			if t < from || t >= to {
				continue
			}
			n := *s.of(&free) + sign**s.of(&need)
			if n < 0 || n > mostRes {
				return nil, api.ErrOver
			}
			*s.of(&free) = n
		}
		if len(want) == 0 || want[len(want)-1].Free != free {
			want = append(want, step(t, free))
		}
	}
	return want, api.OK
}

// changer is Take or Give.
type changer struct {
	name string
	sign int
	call func(l []api.Step, from, to int, need api.Res) ([]api.Step, api.Errno)
}

var changers = []changer{{"Take", -1, Take}, {"Give", 1, Give}}

func (c changer) check(t *testing.T, l []api.Step, from, to int, need api.Res, want []api.Step, wantErr api.Errno) {
	t.Helper()
	before := slices.Clone(l)
	if got, err := c.call(l, from, to, need); !slices.Equal(got, want) || err != wantErr {
		t.Errorf("%s(%v, %d, %d, %v) = %v, %d, want %v, %d", c.name, l, from, to, need, got, err, want, wantErr)
	}
	if !slices.Equal(l, before) {
		t.Errorf("%s changed %v to %v", c.name, before, l)
	}
}

func TestP10_1NewOfOneStep(t *testing.T) {
	for _, at := range []int{0, 1, 2, 1 << 32, mostTime - 1, mostTime} {
		for _, free := range []api.Res{{}, res(1, 2, 3, 4), largestRes} {
			if l, err := New(at, free); !slices.Equal(l, []api.Step{step(at, free)}) || err != api.OK {
				t.Errorf("New(%d, %v) = %v, %d", at, free, l, err)
			}
		}
	}
}

func TestP10_1NewOfWhatMayNotBe(t *testing.T) {
	for _, at := range far {
		if l, err := New(at, cpu(4)); len(l) > 0 || err != api.ErrArg {
			t.Errorf("New(%d, ..) = %v, %d", at, l, err)
		}
	}
	for _, free := range wrongRes() {
		if l, err := New(0, free); len(l) > 0 || err != api.ErrArg {
			t.Errorf("New(0, %v) = %v, %d", free, l, err)
		}
		if l, err := New(-1, free); len(l) > 0 || err != api.ErrArg {
			t.Errorf("New(-1, %v) = %v, %d", free, l, err)
		}
	}
}

func TestP10_1NewAnswersNewMemory(t *testing.T) {
	one, _ := New(1, cpu(4))
	other, _ := New(1, cpu(4))
	clear(one[:cap(one)])
	if !slices.Equal(other, ofCpu(1, 4)) {
		t.Errorf("one was changed with another: %v", other)
	}
}

func TestP10_1RightOnes(t *testing.T) {
	for _, l := range rights() {
		if !Right(l) {
			t.Errorf("%v isn't right", l)
		}
	}
}

func TestP10_1RightOfWhatIsNone(t *testing.T) {
	for _, l := range wrongs() {
		if Right(l) {
			t.Errorf("%v is right", l)
		}
	}
}

func TestP10_1RightOfMany(t *testing.T) {
	var l []api.Step
	for i := range 1000 {
		l = append(l, step(i, cpu(i%2)))
	}
	if !Right(l) {
		t.Error("a thousand steps aren't right")
	}
	for i := range l {
		bad := slices.Clone(l)
		bad[i].At = mostTime + 1
		if Right(bad) {
			t.Errorf("right with a time beyond all, at %d", i)
		}
		bad[i] = step(i, cpu(-1))
		if Right(bad) {
			t.Errorf("right with a vector that isn't, at %d", i)
		}
		bad[i] = step(i-1, cpu(1))
		if Right(bad) {
			t.Errorf("right with a time that doesn't rise, at %d", i)
		}
	}
}

// plains are step functions with the plain ones, written by hand.
var plains = [][2][]api.Step{
	{ofCpu(0, 4), ofCpu(0, 4)},
	{ofCpu(7, 0), ofCpu(7, 0)},
	{ofCpu(0, 4, 1, 4), ofCpu(0, 4)},
	{ofCpu(0, 4, 1, 3), ofCpu(0, 4, 1, 3)},
	{ofCpu(0, 4, 1, 3, 2, 4), ofCpu(0, 4, 1, 3, 2, 4)},
	{ofCpu(3, 1, 4, 1, 5, 1, 6, 2), ofCpu(3, 1, 6, 2)},
	{ofCpu(3, 1, 4, 1, 5, 2, 6, 2, 7, 1, 8, 1, 9, 1), ofCpu(3, 1, 5, 2, 7, 1)},
	{ofCpu(0, 0, 1, 0, mostTime, 0), ofCpu(0, 0)},
	{
		{step(1, res(1, 2, 3, 4)), step(2, res(1, 2, 3, 4)), step(3, res(1, 2, 3, 5))},
		{step(1, res(1, 2, 3, 4)), step(3, res(1, 2, 3, 5))},
	},
}

func TestP10_1PlainCases(t *testing.T) {
	for _, c := range plains {
		if got := Plain(c[0]); !slices.Equal(got, c[1]) {
			t.Errorf("Plain(%v) = %v, want %v", c[0], got, c[1])
		}
	}
}

func TestP10_1PlainOfOneNumberThatDiffers(t *testing.T) {
	for _, s := range spots {
		for _, n := range []int{0, 2, 1 + 1<<8, 1 + 1<<16} {
			l := []api.Step{step(0, res(1, 1, 1, 1)), step(5, s.with(res(1, 1, 1, 1), n))}
			if got := Plain(l); !slices.Equal(got, l) {
				t.Errorf("Plain(%v) = %v", l, got)
			}
		}
	}
}

func TestP10_1PlainIsAsMuchAndHasNoNeighboursAlike(t *testing.T) {
	for _, l := range rights() {
		before := slices.Clone(l)
		got := Plain(l)
		if !slices.Equal(l, before) {
			t.Errorf("%v was changed to %v", before, l)
		}
		for _, at := range probes(l) {
			if freeAt(got, at) != freeAt(l, at) {
				t.Errorf("of %v, made plain, %v is free at %d", l, freeAt(got, at), at)
			}
		}
		for i := 1; i < len(got); i++ {
			if got[i].Free == got[i-1].Free || got[i].At <= got[i-1].At {
				t.Errorf("Plain(%v) = %v", l, got)
			}
		}
		if again := Plain(got); !slices.Equal(again, got) {
			t.Errorf("Plain(%v) = %v, and was plain", got, again)
		}
	}
}

func TestP10_1PlainAtLeastOfWhatIsNone(t *testing.T) {
	for _, l := range wrongs() {
		before := slices.Clone(l)
		if got := Plain(l); len(got) > 0 {
			t.Errorf("Plain(%v) = %v", l, got)
		}
		for _, at := range []int{-1, 0, 1, 5, mostTime, math.MaxInt} {
			if got := At(l, at); got != (api.Res{}) {
				t.Errorf("At(%v, %d) = %v", l, at, got)
			}
			if got := Least(l, at, math.MaxInt); got != (api.Res{}) {
				t.Errorf("Least(%v, %d, ..) = %v", l, at, got)
			}
		}
		if !slices.Equal(l, before) {
			t.Errorf("%v was changed to %v", before, l)
		}
	}
}

func TestP10_1PlainAnswersNewMemory(t *testing.T) {
	for _, c := range plains {
		l := slices.Clone(c[0])
		got := Plain(l)
		clear(got[:cap(got)])
		if !slices.Equal(l, c[0]) {
			t.Errorf("%v was changed to %v with what Plain answered", c[0], l)
		}
	}
}

func TestP10_1AtCases(t *testing.T) {
	l := ofCpu(3, 4, 5, 1, 6, 2)
	for _, c := range [][2]int{{math.MinInt, 0}, {-1, 0}, {0, 0}, {2, 0}, {3, 4}, {4, 4}, {5, 1}, {6, 2}, {7, 2}, {mostTime, 2}, {mostTime + 1, 2}, {math.MaxInt, 2}} {
		if got := At(l, c[0]); got != cpu(c[1]) {
			t.Errorf("At(%d) = %v, want %d cpu", c[0], got, c[1])
		}
	}
}

func TestP10_1AtAllSortsOfTimes(t *testing.T) {
	for _, l := range rights() {
		before := slices.Clone(l)
		for _, at := range probes(l) {
			if got := At(l, at); got != freeAt(l, at) {
				t.Errorf("At(%v, %d) = %v", l, at, got)
			}
		}
		if !slices.Equal(l, before) {
			t.Errorf("%v was changed to %v", before, l)
		}
	}
}

func TestP10_1LeastCases(t *testing.T) {
	l := ofCpu(3, 4, 5, 1, 6, 2, 9, 3)
	for _, c := range [][3]int{
		{3, 4, 4}, {3, 5, 4}, {3, 6, 1}, {4, 5, 4}, {4, 6, 1}, {5, 6, 1}, {5, 7, 1}, {6, 7, 2}, {6, 9, 2}, {6, 10, 2}, {8, 10, 2}, {9, 10, 3}, {10, 11, 3}, {3, 100, 1}, // within
		{6, mostTime, 2}, {6, mostTime + 1, 2}, {6, math.MaxInt, 2}, {9, math.MaxInt, 3}, {mostTime, mostTime + 1, 3}, {mostTime + 1, math.MaxInt, 3}, {math.MaxInt - 1, math.MaxInt, 3}, // for ever
		{3, 3, 0}, {4, 3, 0}, {3, 2, 0}, {3, -1, 0}, {9, math.MinInt, 0}, {math.MaxInt, math.MaxInt, 0}, {math.MaxInt, math.MinInt, 0}, // not above
		{2, 3, 0}, {2, 4, 0}, {0, 100, 0}, {-1, 100, 0}, {math.MinInt, math.MaxInt, 0}, {2, 2, 0}, // ahead of the first
	} {
		if got := Least(l, c[0], c[1]); got != cpu(c[2]) {
			t.Errorf("Least(%d, %d) = %v, want %d cpu", c[0], c[1], got, c[2])
		}
	}
}

func TestP10_1LeastOfEachNumberByItself(t *testing.T) {
	l := []api.Step{step(0, res(1, 7, 6, 5)), step(1, res(2, 3, 7, 5)), step(2, res(3, 9, 1, 5)), step(3, res(4, 9, 8, 0))}
	for _, c := range []struct {
		from, to int
		want     api.Res
	}{{0, 1, res(1, 7, 6, 5)}, {0, 2, res(1, 3, 6, 5)}, {0, 3, res(1, 3, 1, 5)}, {0, 4, res(1, 3, 1, 0)}, {1, 3, res(2, 3, 1, 5)}, {2, 4, res(3, 9, 1, 0)}, {3, 9, res(4, 9, 8, 0)}} {
		if got := Least(l, c.from, c.to); got != c.want {
			t.Errorf("Least(%d, %d) = %v, want %v", c.from, c.to, got, c.want)
		}
	}
}

func TestP10_1LeastOfAllSortsOfTimes(t *testing.T) {
	for _, l := range rights() {
		before := slices.Clone(l)
		for _, from := range probes(l) {
			for _, to := range probes(l) {
				if got, want := Least(l, from, to), wantedLeast(l, from, to); got != want {
					t.Fatalf("Least(%v, %d, %d) = %v, want %v", l, from, to, got, want)
				}
			}
		}
		if !slices.Equal(l, before) {
			t.Errorf("%v was changed to %v", before, l)
		}
	}
}

func TestP10_2TakeCases(t *testing.T) {
	take := changers[0]
	four := ofCpu(0, 4)
	take.check(t, four, 2, 5, cpu(3), ofCpu(0, 4, 2, 1, 5, 4), api.OK) // the chapter's example
	take.check(t, four, 0, 1, cpu(4), ofCpu(0, 0, 1, 4), api.OK)
	take.check(t, four, 0, mostTime, cpu(1), ofCpu(0, 3, mostTime, 4), api.OK)
	take.check(t, four, mostTime-1, mostTime, cpu(1), ofCpu(0, 4, mostTime-1, 3, mostTime, 4), api.OK)
	take.check(t, ofCpu(0, 4, 2, 1, 5, 4), 2, 5, cpu(1), ofCpu(0, 4, 2, 0, 5, 4), api.OK)
	take.check(t, ofCpu(0, 4, 2, 1, 5, 4), 0, 2, cpu(3), ofCpu(0, 1, 5, 4), api.OK)
	take.check(t, ofCpu(0, 4, 2, 1, 5, 4), 5, 9, cpu(3), ofCpu(0, 4, 2, 1, 9, 4), api.OK)
	take.check(t, ofCpu(0, 4, 2, 3, 5, 4), 1, 6, cpu(2), ofCpu(0, 4, 1, 2, 2, 1, 5, 2, 6, 4), api.OK)
	take.check(t, ofCpu(0, 4, 2, 4, 5, 4), 7, 8, cpu(1), ofCpu(0, 4, 7, 3, 8, 4), api.OK)
	take.check(t, ofCpu(0, 4, 2, 4, 5, 3), 7, 8, api.Res{}, ofCpu(0, 4, 5, 3), api.OK)
	take.check(t, []api.Step{step(1, res(4, 5, 6, 7))}, 2, 3, res(4, 3, 2, 1), []api.Step{step(1, res(4, 5, 6, 7)), step(2, res(0, 2, 4, 6)), step(3, res(4, 5, 6, 7))}, api.OK)
	take.check(t, []api.Step{step(1, largestRes)}, 1, 3, largestRes, []api.Step{step(1, api.Res{}), step(3, largestRes)}, api.OK)
}

func TestP10_2GiveCases(t *testing.T) {
	give := changers[1]
	give.check(t, ofCpu(0, 4, 2, 1, 5, 4), 2, 5, cpu(3), ofCpu(0, 4), api.OK)
	give.check(t, ofCpu(0, 0), 2, 5, cpu(3), ofCpu(0, 0, 2, 3, 5, 0), api.OK)
	give.check(t, ofCpu(0, 4, 2, 1, 5, 4), 2, 5, cpu(1), ofCpu(0, 4, 2, 2, 5, 4), api.OK)
	give.check(t, ofCpu(0, 4, 2, 1, 5, 4), 0, 2, cpu(1), ofCpu(0, 5, 2, 1, 5, 4), api.OK)
	give.check(t, ofCpu(0, 4, 2, 1, 5, 4), 2, 3, cpu(3), ofCpu(0, 4, 3, 1, 5, 4), api.OK)
	give.check(t, ofCpu(0, mostRes-3), 1, mostTime, cpu(3), ofCpu(0, mostRes-3, 1, mostRes, mostTime, mostRes-3), api.OK)
	give.check(t, ofCpu(0, 4, 2, 4, 5, 3), 7, 8, api.Res{}, ofCpu(0, 4, 5, 3), api.OK)
	give.check(t, []api.Step{step(1, api.Res{})}, 1, 3, largestRes, []api.Step{step(1, largestRes), step(3, api.Res{})}, api.OK)
}

func TestP10_2ErrOverOfOneNumberAtOneTime(t *testing.T) {
	for _, s := range spots {
		room := res(9, 9, 9, 9)
		low := []api.Step{step(0, room), step(2, s.with(room, 3)), step(5, room)}
		high := []api.Step{step(0, room), step(2, s.with(room, mostRes-3)), step(5, room)}
		for _, span := range [][2]int{{0, 3}, {0, 9}, {2, 3}, {2, 5}, {3, 4}, {4, 5}, {4, 9}} {
			for n := range 9 {
				need := s.with(res(1, 1, 1, 1), n)
				want := api.OK
				if n > 3 {
					want = api.ErrOver
				}
				if l, err := Take(low, span[0], span[1], need); err != want || err != api.OK && len(l) > 0 {
					t.Errorf("Take of %d %s within %v: %v, %d", n, s.name, span, l, err)
				}
				if l, err := Give(high, span[0], span[1], need); err != want || err != api.OK && len(l) > 0 {
					t.Errorf("Give of %d %s within %v: %v, %d", n, s.name, span, l, err)
				}
			}
		}
		for _, span := range [][2]int{{0, 1}, {0, 2}, {1, 2}, {5, 6}, {6, 9}} { // none of the low or high time
			if _, err := Take(low, span[0], span[1], s.with(api.Res{}, 9)); err != api.OK {
				t.Errorf("Take of 9 %s within %v: %d", s.name, span, err)
			}
			if _, err := Give(high, span[0], span[1], s.with(api.Res{}, mostRes-9)); err != api.OK {
				t.Errorf("Give of %s within %v: %d", s.name, span, err)
			}
		}
	}
}

func TestP10_2OfAllSortsOfTimes(t *testing.T) {
	drawn := rand.New(rand.NewSource(102))
	done, over := 0, 0
	for _, l := range rights() {
		for _, from := range probes(l) {
			for _, to := range probes(l, from) {
				need := drawnRes(drawn)
				for _, c := range changers {
					if from < l[0].At || to <= from || to > mostTime {
						c.check(t, l, from, to, need, nil, api.ErrArg)
						continue
					}
					want, err := wantedChange(l, from, to, need, c.sign)
					c.check(t, l, from, to, need, want, err)
					if err == api.OK {
						done++
					} else {
						over++
					}
				}
			}
		}
		if t.Failed() {
			t.Fatal("no more of these")
		}
	}
	if done < 10000 || over < 10000 {
		t.Errorf("only %d were done, and %d ran over", done, over)
	}
}

func TestP10_2ErrArgOfTimes(t *testing.T) {
	l := ofCpu(3, 4, 6, 2)
	for _, c := range changers {
		for _, span := range [][2]int{{2, 5}, {0, 5}, {-1, 5}, {math.MinInt, 5}, {2, 3}, {2, 2}, {0, 3}, {3, 3}, {4, 3}, {4, 4}, {3, 2}, {6, 6}, {3, -1}, {3, math.MinInt}, {math.MaxInt, math.MinInt}, {mostTime, mostTime}, {mostTime + 1, mostTime}, {math.MaxInt, math.MaxInt}, {math.MinInt, math.MaxInt}, {3 + 1<<32, 5}} {
			c.check(t, l, span[0], span[1], cpu(1), nil, api.ErrArg)
			c.check(t, l, span[0], span[1], cpu(mostRes), nil, api.ErrArg) // also ahead of ErrOver
		}
		for _, to := range late {
			c.check(t, l, 3, to, cpu(1), nil, api.ErrArg)
			c.check(t, l, 3, to, cpu(mostRes), nil, api.ErrArg)
			c.check(t, l, to-1, to, cpu(1), nil, api.ErrArg)
		}
		c.check(t, ofCpu(mostTime, 4), mostTime, mostTime, cpu(1), nil, api.ErrArg) // no time is left in which anything may be taken
		c.check(t, ofCpu(mostTime, 4), mostTime, mostTime+1, cpu(1), nil, api.ErrArg)
		c.check(t, ofCpu(mostTime, 4), mostTime-1, mostTime, cpu(1), nil, api.ErrArg)
	}
}

func TestP10_2ErrArgOfSteps(t *testing.T) {
	for _, l := range wrongs() {
		for _, c := range changers {
			c.check(t, l, 0, 1, api.Res{}, nil, api.ErrArg)
			c.check(t, l, 1, 9, cpu(1), nil, api.ErrArg)
			c.check(t, l, mostTime-1, mostTime, cpu(mostRes), nil, api.ErrArg)
		}
	}
}

func TestP10_2ErrArgOfNeeds(t *testing.T) {
	for _, need := range wrongRes() {
		for _, c := range changers {
			c.check(t, ofCpu(0, 4), 1, 9, need, nil, api.ErrArg)
			c.check(t, ofCpu(0, 4, 3, 0, 5, mostRes), 1, 9, need, nil, api.ErrArg)
		}
	}
}

func TestP10_2AnswersNewMemory(t *testing.T) {
	for _, c := range changers {
		for _, l := range fixed() {
			for _, from := range []int{0, 1, 3, 7} {
				before := slices.Clone(l)
				got, _ := c.call(l, from, from+2, api.Res{})
				clear(got[:cap(got)])
				if !slices.Equal(l, before) {
					t.Errorf("%v was changed to %v with what %s answered", before, l, c.name)
				}
			}
		}
	}
}

func TestP10_2LeavesWhatTheListHasRoomFor(t *testing.T) {
	for size := 1; size < 7; size++ {
		for from := range 9 {
			room := ofCpu(0, 4, 2, 3, 3, 3, 4, 2, 6, 9, 7, 9, 8, 9)
			for _, c := range changers {
				c.call(room[:size], from, from+2, cpu(1))
				c.call(room[:size], from, from+1, api.Res{})
			}
			Plain(room[:size])
			if !slices.Equal(room, ofCpu(0, 4, 2, 3, 3, 3, 4, 2, 6, 9, 7, 9, 8, 9)) {
				t.Fatalf("what stands behind %d steps was changed: %v", size, room)
			}
		}
	}
}

func TestP10_2OfMany(t *testing.T) {
	l, _ := New(0, cpu(4))
	for i := range 500 {
		l, _ = Take(l, 2*i, 2*i+1, cpu(1))
	}
	if len(l) != 1000 {
		t.Fatalf("%d steps", len(l))
	}
	for i := range 500 {
		if At(l, 2*i) != cpu(3) || At(l, 2*i+1) != cpu(4) {
			t.Errorf("of every other time: at %d: %v, %v", 2*i, At(l, 2*i), At(l, 2*i+1))
		}
	}
}

// portion is something that is taken.
type portion struct {
	from, to int
	need     api.Res
}

func drawnPortion(drawn *rand.Rand, l []api.Step) portion {
	from := l[0].At + drawn.Intn(10)
	p := portion{from: from, to: from + 1 + drawn.Intn(8)}
	for _, s := range spots {
		*s.of(&p.need) = drawn.Intn(2)
	}
	return p
}

// takeAll takes portions one behind the other.
func takeAll(l []api.Step, portions []portion) ([]api.Step, api.Errno) {
	for _, p := range portions {
		var err api.Errno
		if l, err = Take(l, p.from, p.to, p.need); err != api.OK {
			return nil, err
		}
	}
	return l, api.OK
}

func TestP10_3GivenBack(t *testing.T) {
	drawn := rand.New(rand.NewSource(103))
	done := 0
	for _, l := range rights() {
		for range 50 {
			p := drawnPortion(drawn, l)
			less, err := Take(l, p.from, p.to, p.need)
			if err != api.OK {
				continue
			}
			done++
			if got, err := Give(less, p.from, p.to, p.need); !slices.Equal(got, Plain(l)) || err != api.OK {
				t.Errorf("of %v, %v taken and given back: %v, %d", l, p, got, err)
			}
		}
	}
	if done < 1000 {
		t.Errorf("only %d were taken", done)
	}
}

func TestP10_3InAnyOrderOrInNone(t *testing.T) {
	drawn := rand.New(rand.NewSource(1033))
	done, over := 0, 0
	for _, l := range rights() {
		if l[0].At > mostTime-20 {
			continue // there not all times of portions may be
		}
		for range 20 {
			portions := []portion{drawnPortion(drawn, l), drawnPortion(drawn, l), drawnPortion(drawn, l)}
			want, wantErr := takeAll(l, portions)
			if wantErr == api.OK {
				done++
			} else {
				over++
			}
			for _, order := range [][]int{{0, 2, 1}, {1, 0, 2}, {1, 2, 0}, {2, 0, 1}, {2, 1, 0}} {
				got, err := takeAll(l, []portion{portions[order[0]], portions[order[1]], portions[order[2]]})
				if !slices.Equal(got, want) || err != wantErr {
					t.Errorf("of %v, %v taken in the order %v: %v, %d, want %v, %d", l, portions, order, got, err, want, wantErr)
				}
			}
		}
	}
	if done < 500 || over < 500 {
		t.Errorf("only %d could be taken, and %d couldn't", done, over)
	}
}
