package place

import (
	"math"
	"math/rand"
	"slices"
	"testing"

	"drayage/api"
)

const (
	mostRes  = 1 << 20
	mostMany = 64
)

// far are numbers that are no node's and no count of chunks: those that fewer bits would take for others are among them.
var far = []int{math.MinInt, math.MinInt + 1, math.MinInt + 2, -1 << 62, -1<<32 + 1, -1 << 32, -1<<16 + 1, -256, -255, -2, -1, 1 << 16, 1<<16 + 1, 1 << 32, 1<<32 + 1, 1<<48 + 1, 1 << 62, math.MaxInt - 1, math.MaxInt}

func res(cpu, mem, gpu, lic int) api.Res {
	return api.Res{Cpu: cpu, Mem: mem, Gpu: gpu, Lic: lic}
}

func cpu(n int) api.Res { return api.Res{Cpu: n} }

// ofCpu is of each node how many cpu are free.
func ofCpu(numbers ...int) []api.Res {
	var l []api.Res
	for _, n := range numbers {
		l = append(l, cpu(n))
	}
	return l
}

// shares are of each pair a node, and how many chunks are on it.
func shares(pairs ...int) []api.Share {
	var l []api.Share
	for i := 0; i < len(pairs); i += 2 {
		l = append(l, api.Share{Node: pairs[i], Many: pairs[i+1]})
	}
	return l
}

// numbers are those of a vector, by their addresses.
func numbers(a *api.Res) []*int { return []*int{&a.Cpu, &a.Mem, &a.Gpu, &a.Lic} }

// wrongs are vectors that aren't right by one number.
func wrongs() []api.Res {
	var l []api.Res
	for _, base := range []api.Res{{}, res(1, 2, 3, 4), res(mostRes, mostRes, mostRes, mostRes)} {
		for i := range 4 {
			for _, n := range []int{math.MinInt, -1 << 32, -2, -1, mostRes + 1, mostRes + 2, 1 << 32, 1<<32 + 1, math.MaxInt} {
				a := base
				*numbers(&a)[i] = n
				l = append(l, a)
			}
		}
	}
	return l
}

// wantedFit is how often need fits a node, by taking it away again and again.
func wantedFit(free []api.Res, node int, need api.Res) int {
	if node < 0 || node >= len(free) || need == (api.Res{}) {
		return 0
	}
	left, needs := free[node], need
	for i, n := range numbers(&left) {
		if *n < 0 || *n > mostRes || *numbers(&needs)[i] < 0 || *numbers(&needs)[i] > mostRes {
			return 0
		}
	}
	for times := range mostMany {
		for i, n := range numbers(&left) {
			*n -= *numbers(&needs)[i]
			if *n < 0 {
				return times
			}
		}
	}
	return mostMany
}

// wantedPlace puts chunk by chunk.
func wantedPlace(free []api.Res, part []int, many int, need api.Res) ([]api.Share, bool) {
	var l []api.Share
	left := many
	for _, node := range part {
		put := 0
		for room := wantedFit(free, node, need); room > 0 && left > 0; room-- {
			put++
			left--
		}
		if put > 0 {
			l = append(l, api.Share{Node: node, Many: put})
		}
	}
	if many < 1 || left > 0 {
		return nil, false
	}
	return l, true
}

// check holds Place against what is wanted, and asks whether it left alone what it was handed.
func check(t *testing.T, free []api.Res, part []int, many int, need api.Res, want []api.Share, wantOk bool) {
	t.Helper()
	freeWas, partWas := slices.Clone(free), slices.Clone(part)
	got, ok := Place(free, part, many, need)
	if ok != wantOk || !slices.Equal(got, want) {
		t.Errorf("Place(%v, %v, %d, %v) = %v, %v; want %v, %v", free, part, many, need, got, ok, want, wantOk)
	}
	if !slices.Equal(free, freeWas) || !slices.Equal(part, partWas) {
		t.Errorf("Place(%v, %v, %d, %v) changed what was handed in", freeWas, partWas, many, need)
	}
}

// drawn are nodes, a part of them and a need, with nodes that there aren't, some twice, and now and then a number at the bounds.
type drawn struct {
	free []api.Res
	part []int
	need api.Res
}

func drawnRes(from *rand.Rand, most int) api.Res {
	var a api.Res
	for _, n := range numbers(&a) {
		*n = from.Intn(most)
		if from.Intn(30) == 0 {
			*n = mostRes - from.Intn(3)
		}
	}
	return a
}

func draw(from *rand.Rand) drawn {
	var d drawn
	for range from.Intn(6) {
		d.free = append(d.free, drawnRes(from, 12))
	}
	for range from.Intn(7) {
		d.part = append(d.part, from.Intn(len(d.free)+2)-1)
	}
	d.need = drawnRes(from, 4)
	return d
}

func TestP11_1RoomCases(t *testing.T) {
	free := []api.Res{res(4, 4, 0, 0), cpu(1), res(8, 2, 0, 0)}
	need := res(2, 1, 0, 0)
	for _, c := range []struct {
		name string
		free []api.Res
		part []int
		need api.Res
		want int
	}{
		{"all nodes", free, []int{0, 1, 2}, need, 4},
		{"in another order", free, []int{2, 1, 0}, need, 4},
		{"one node", free, []int{2}, need, 2},
		{"a node where none fits", free, []int{1}, need, 0},
		{"nodes that there aren't", free, []int{-1, 3, 0, 7, 2}, need, 4},
		{"only nodes that there aren't", free, []int{-1, 3}, need, 0},
		{"one that is named twice", free, []int{0, 0}, need, 4},
		{"one that is named three times, among others", free, []int{0, 2, 0, 1, 0}, need, 8},
		{"no part", free, nil, need, 0},
		{"an empty part", free, []int{}, need, 0},
		{"no nodes", nil, []int{0, 1}, need, 0},
		{"a need of nothing", free, []int{0, 1, 2}, api.Res{}, 0},
		{"a need of something that no node has", free, []int{0, 1, 2}, res(0, 0, 0, 1), 0},
		{"just as much as is free", ofCpu(4, 3), []int{0, 1}, cpu(4), 1},
		{"at most so many a node", ofCpu(1000, 1000, 63), []int{0, 1, 2}, cpu(1), 64 + 64 + 63},
		{"the largest numbers", ofCpu(mostRes, mostRes), []int{0, 1}, cpu(mostRes), 2},
	} {
		if got := Room(c.free, c.part, c.need); got != c.want {
			t.Errorf("%s: Room(%v, %v, %v) = %d, want %d", c.name, c.free, c.part, c.need, got, c.want)
		}
	}
}

func TestP11_1RoomOfNodesThatThereArent(t *testing.T) {
	free := ofCpu(4, 4, 4)
	for _, node := range append([]int{3, 4, 15, 16, 255, 256}, far...) {
		if got := Room(free, []int{node, 1, node}, cpu(2)); got != 2 {
			t.Errorf("with node %d: room for %d, want 2", node, got)
		}
		check(t, free, []int{node, 1, node}, 2, cpu(2), shares(1, 2), true)
		check(t, free, []int{node}, 1, cpu(2), nil, false)
	}
}

func TestP11_1WhatIsNotRight(t *testing.T) {
	for _, wrong := range wrongs() {
		if got := Room(ofCpu(4, 4), []int{0, 1}, wrong); got != 0 {
			t.Errorf("of need %v: room for %d, want 0", wrong, got)
		}
		check(t, ofCpu(4, 4), []int{0, 1}, 1, wrong, nil, false)
		free := []api.Res{cpu(4), wrong, cpu(6)}
		if got := Room(free, []int{0, 1, 2}, cpu(2)); got != 5 {
			t.Errorf("of free %v: room for %d, want 5", free, got)
		}
		check(t, free, []int{0, 1, 2}, 5, cpu(2), shares(0, 2, 2, 3), true)
		check(t, free, []int{1}, 1, cpu(2), nil, false)
	}
}

func TestP11_1PlaceCases(t *testing.T) {
	free := []api.Res{res(4, 4, 0, 0), cpu(1), res(8, 2, 0, 0)}
	need := res(2, 1, 0, 0)
	for _, c := range []struct {
		name string
		free []api.Res
		part []int
		many int
		need api.Res
		want []api.Share
		ok   bool
	}{
		{"the chapter's example", ofCpu(3, 9), []int{0, 1}, 3, cpu(2), shares(0, 1, 1, 2), true},
		{"in the order of the part", free, []int{2, 1, 0}, 3, need, shares(2, 2, 0, 1), true},
		{"in another order", free, []int{0, 1, 2}, 3, need, shares(0, 2, 2, 1), true},
		{"all that there is room for", free, []int{0, 1, 2}, 4, need, shares(0, 2, 2, 2), true},
		{"one more than there is room for", free, []int{0, 1, 2}, 5, need, nil, false},
		{"one chunk", free, []int{0, 1, 2}, 1, need, shares(0, 1), true},
		{"all on the first one", free, []int{2, 0}, 2, need, shares(2, 2), true},
		{"the first one has no room", free, []int{1, 0}, 2, need, shares(0, 2), true},
		{"none of none", free, []int{0, 1, 2}, 0, need, nil, false},
		{"fewer than none", free, []int{0, 1, 2}, -1, need, nil, false},
		{"none, of no part", free, nil, 0, need, nil, false},
		{"no part", free, nil, 1, need, nil, false},
		{"an empty part", free, []int{}, 1, need, nil, false},
		{"no nodes", nil, []int{0}, 1, need, nil, false},
		{"only nodes that there aren't", free, []int{-1, 3}, 1, need, nil, false},
		{"a need of nothing", free, []int{0, 1, 2}, 1, api.Res{}, nil, false},
		{"one that is named twice is met twice", free, []int{0, 0}, 4, need, shares(0, 2, 0, 2), true},
		{"the second time for what is left", free, []int{0, 1, 0, 2}, 3, need, shares(0, 2, 0, 1), true},
		{"the second time is not needed", free, []int{0, 0}, 2, need, shares(0, 2), true},
		{"not even twice", free, []int{0, 0}, 5, need, nil, false},
		{"at most so many a node", ofCpu(1000, 1000), []int{1, 0}, 100, cpu(1), shares(1, 64, 0, 36), true},
		{"more than so many, of one node", ofCpu(1000), []int{0}, 65, cpu(1), nil, false},
		{"just so many, of one node", ofCpu(1000), []int{0}, 64, cpu(1), shares(0, 64), true},
		{"more than so many, of one that is named twice", ofCpu(1000), []int{0, 0}, 70, cpu(1), shares(0, 64, 0, 6), true},
		{"the largest numbers", ofCpu(mostRes, mostRes-1, mostRes), []int{0, 1, 2}, 2, cpu(mostRes), shares(0, 1, 2, 1), true},
		{"each number counts", []api.Res{res(9, 9, 9, 1), res(9, 9, 2, 9), res(9, 3, 9, 9), res(4, 9, 9, 9)}, []int{0, 1, 2, 3}, 10, res(1, 1, 1, 1), shares(0, 1, 1, 2, 2, 3, 3, 4), true},
	} {
		t.Run(c.name, func(t *testing.T) { check(t, c.free, c.part, c.many, c.need, c.want, c.ok) })
	}
}

func TestP11_1PlaceOfFarNumbers(t *testing.T) {
	for _, many := range far {
		check(t, ofCpu(4, 4, 4), []int{0, 1, 2}, many, cpu(2), nil, false)
		check(t, nil, nil, many, cpu(2), nil, false)
	}
}

func TestP11_1PlaceOfMany(t *testing.T) {
	from := rand.New(rand.NewSource(11))
	for range 3000 {
		d := draw(from)
		room := 0
		for _, node := range d.part {
			room += wantedFit(d.free, node, d.need)
		}
		if got := Room(d.free, d.part, d.need); got != room {
			t.Fatalf("Room(%v, %v, %v) = %d, want %d", d.free, d.part, d.need, got, room)
		}
		for _, many := range []int{-1, 0, 1, 2, 3, room - 1, room, room + 1} {
			want, ok := wantedPlace(d.free, d.part, many, d.need)
			check(t, d.free, d.part, many, d.need, want, ok)
			if ok != (many >= 1 && many <= room) {
				t.Fatalf("%d chunks where there is room for %d: %v", many, room, ok)
			}
		}
	}
}

func TestP11_1PlaceAnswersWhatIsRight(t *testing.T) {
	from := rand.New(rand.NewSource(12))
	for range 1000 {
		d := draw(from)
		slices.Sort(d.part)
		d.part = slices.Compact(d.part)
		many := 1 + from.Intn(6)
		l, ok := Place(d.free, d.part, many, d.need)
		if ok && (!Right(l, len(d.free)) || Total(l) != many) {
			t.Fatalf("Place(%v, %v, %d, %v) = %v", d.free, d.part, many, d.need, l)
		}
	}
}

func TestP11_1PlaceAnswersNewMemory(t *testing.T) {
	free, part := ofCpu(4, 4), []int{0, 1}
	one, _ := Place(free, part, 3, cpu(2))
	two, _ := Place(free, part, 3, cpu(2))
	one[0], one[1] = api.Share{}, api.Share{}
	part[0], free[1] = 7, api.Res{}
	if !slices.Equal(two, shares(0, 2, 1, 1)) {
		t.Errorf("an answer became %v", two)
	}
}

func TestP11_1RightCases(t *testing.T) {
	for _, c := range []struct {
		name  string
		l     []api.Share
		nodes int
		want  bool
	}{
		{"one", shares(0, 1), 1, true},
		{"the last node", shares(2, 1), 3, true},
		{"rising", shares(0, 1, 1, 64, 3, 2), 4, true},
		{"as many as there are nodes", shares(0, 1, 1, 1, 2, 1), 3, true},
		{"none", nil, 3, true},
		{"an empty list", []api.Share{}, 3, true},
		{"none, of no nodes", nil, 0, true},
		{"the most chunks", shares(0, 64), 1, true},
		{"many nodes", shares(0, 1, 16, 1, 1<<40, 1), 1<<40 + 1, true},
		{"one of no nodes", shares(0, 1), 0, false},
		{"one of fewer nodes than none", shares(0, 1), -1, false},
		{"one below all, of fewer nodes than none", shares(-2, 1), -1, false},
		{"one node too far", shares(3, 1), 3, false},
		{"the second one too far", shares(0, 1, 3, 1), 3, false},
		{"below 0", shares(-1, 1), 3, false},
		{"below 0, ahead of right ones", shares(-1, 1, 0, 1, 1, 1), 3, false},
		{"one node twice", shares(1, 1, 1, 1), 3, false},
		{"one node twice, not side by side", shares(0, 1, 1, 1, 0, 1), 3, false},
		{"falling", shares(2, 2, 0, 1), 3, false},
		{"falling at the end", shares(0, 1, 2, 1, 1, 1), 3, false},
		{"none of a node", shares(0, 0), 3, false},
		{"none of the last node", shares(0, 1, 1, 0), 3, false},
		{"fewer than none", shares(0, -1), 3, false},
		{"one chunk too many", shares(0, 65), 3, false},
		{"one chunk too many on the last node", shares(0, 64, 1, 65), 3, false},
	} {
		if got := Right(c.l, c.nodes); got != c.want {
			t.Errorf("%s: Right(%v, %d) = %v, want %v", c.name, c.l, c.nodes, got, c.want)
		}
	}
}

func TestP11_1RightOfFarNumbers(t *testing.T) {
	for _, n := range far {
		if Right(shares(n, 1), 16) {
			t.Errorf("node %d of 16 is taken", n)
		}
		if Right(shares(0, n), 16) {
			t.Errorf("%d chunks are taken", n)
		}
		if Right(shares(0, 1, 1, 1), n) != (n > 0) {
			t.Errorf("nodes 0 and 1 of %d: %v", n, n <= 0)
		}
	}
	if Right(shares(math.MaxInt, 1), math.MaxInt) || !Right(shares(math.MaxInt-1, 1), math.MaxInt) {
		t.Error("the last one of as many nodes as there can be")
	}
}

func TestP11_1TotalCases(t *testing.T) {
	for _, c := range []struct {
		l    []api.Share
		want int
	}{
		{nil, 0},
		{[]api.Share{}, 0},
		{shares(0, 1), 1},
		{shares(0, 1, 1, 2, 5, 4), 7},
		{shares(0, 0, 1, 0), 0},
		{shares(0, 63), 63},
		{shares(0, 64), 64},
		{shares(0, 65), 64},
		{shares(0, 70, 0, -1, 0, 2), 66},
		{shares(0, -5, 1, 3), 3},
		{shares(3, 2, 1, 2, 3, 2), 6},
		{shares(-1, 2, 1<<40, 3), 5},
	} {
		was := slices.Clone(c.l)
		if got := Total(c.l); got != c.want {
			t.Errorf("Total(%v) = %d, want %d", was, got, c.want)
		}
		if !slices.Equal(c.l, was) {
			t.Errorf("Total changed %v to %v", was, c.l)
		}
	}
}

func TestP11_1TotalOfFarNumbers(t *testing.T) {
	for _, n := range far {
		want := 6
		if n > 0 {
			want += 2 * mostMany
		}
		if got := Total(shares(0, 1, 1, n, 2, 5, 3, n)); got != want {
			t.Errorf("with %d chunks twice: %d, want %d", n, got, want)
		}
	}
}

// less draws less than is free, but of each node no less than what was placed takes.
func less(from *rand.Rand, free []api.Res, need api.Res, placed []api.Share) []api.Res {
	l := make([]api.Res, len(free))
	for i := range free {
		most := 0
		for _, s := range placed {
			if s.Node == i {
				most = max(most, s.Many)
			}
		}
		was, needs := free[i], need
		for k, n := range numbers(&l[i]) {
			least := most * *numbers(&needs)[k]
			*n = least
			if room := *numbers(&was)[k] - least; from.Intn(3) > 0 {
				*n += from.Intn(room + 1)
			}
		}
	}
	return l
}

func TestP11_2PlacedAlikeWhereLessIsFree(t *testing.T) {
	from := rand.New(rand.NewSource(13))
	placed := 0
	for range 3000 {
		d := draw(from)
		room := Room(d.free, d.part, d.need)
		for _, many := range []int{1, 2, room} {
			want, ok := Place(d.free, d.part, many, d.need)
			if !ok {
				continue
			}
			placed++
			for range 3 {
				check(t, less(from, d.free, d.need, want), d.part, many, d.need, want, true)
			}
		}
	}
	if placed < 1000 {
		t.Errorf("only %d were placed", placed)
	}
}

func TestP11_2PlacedAlikeWhereNothingElseIsFree(t *testing.T) {
	free := []api.Res{res(9, 9, 9, 9), res(1, 9, 9, 9), res(9, 9, 9, 9), res(9, 9, 9, 9)}
	need := res(2, 1, 0, 3)
	want := shares(2, 3, 0, 1)
	check(t, free, []int{2, 1, 0, 3}, 4, need, want, true)
	check(t, []api.Res{need, {}, res(6, 3, 0, 9), {}}, []int{2, 1, 0, 3}, 4, need, want, true)
	check(t, []api.Res{need, {}, res(6, 3, 0, 8), {}}, []int{2, 1, 0, 3}, 4, need, nil, false)
}
