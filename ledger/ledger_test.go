package ledger

import (
	"math"
	"math/rand"
	"reflect"
	"slices"
	"testing"

	"drayage/api"
	"drayage/spec"
)

const (
	mostRes  = 1 << 20
	mostMany = 64
	mostIds  = 1 << 20
)

// far are numbers that are no job's, no node's, no count of chunks and no part of a vector: those that fewer bits would take for others are among them.
var far = []int{math.MinInt, math.MinInt + 1, math.MinInt + 7, -1 << 62, -1<<48 + 7, -1<<32 + 1, -1 << 32, -mostIds, -256, -2, -1, mostIds + 1, mostIds + 7, 1 << 32, 1<<32 + 1, 1<<32 + 7, 1<<48 + 7, 1 << 62, math.MaxInt - 1, math.MaxInt}

func cpu(n int) api.Res { return api.Res{Cpu: n} }

// on are shares, of each two numbers one.
func on(numbers ...int) []api.Share {
	var l []api.Share
	for i := 0; i < len(numbers); i += 2 {
		l = append(l, api.Share{Node: numbers[i], Many: numbers[i+1]})
	}
	return l
}

func alloc(job int, need api.Res, shares ...int) api.Alloc {
	return api.Alloc{Job: job, Need: need, Shares: on(shares...)}
}

// setUp is a set-up of these nodes.
func setUp(nodes ...api.Res) api.Spec {
	s := spec.Small()
	s.Nodes, s.Parts = nodes, [][]int{{0}}
	for i := range s.Queues {
		s.Queues[i].Part = 0
	}
	return s
}

// must is a ledger that there has to be, with these allocations.
func must(t *testing.T, s api.Spec, l ...api.Alloc) *Ledger {
	t.Helper()
	x, err := New(s)
	if err != api.OK || x == nil {
		t.Fatalf("New of %v = %v, %d", s.Nodes, x, err)
	}
	for _, a := range l {
		if err := x.Take(a); err != api.OK {
			t.Fatalf("Take(%v) = %d", a, err)
		}
	}
	return x
}

// check holds all that a ledger tells against what is wanted, of the jobs 1 to 12, and of some that never have anything.
func check(t *testing.T, x *Ledger, free []api.Res, all ...api.Alloc) {
	t.Helper()
	if got := x.Free(); !slices.Equal(got, free) {
		t.Errorf("Free() = %v, want %v", got, free)
	}
	if got := x.All(); len(got)+len(all) > 0 && !reflect.DeepEqual(got, all) {
		t.Errorf("All() = %v, want %v", got, all)
	}
	for job := -1; job <= 13; job++ {
		checkOf(t, x, job, all)
	}
	for _, job := range far {
		checkOf(t, x, job, all)
	}
}

func checkOf(t *testing.T, x *Ledger, job int, all []api.Alloc) {
	t.Helper()
	var want api.Alloc
	at := slices.IndexFunc(all, func(a api.Alloc) bool { return a.Job == job })
	if at >= 0 {
		want = all[at]
	}
	if got, ok := x.Of(job); ok != (at >= 0) || !reflect.DeepEqual(got, want) {
		t.Errorf("Of(%d) = %v, %v; want %v, %v", job, got, ok, want, at >= 0)
	}
}

// busy is a ledger of three nodes of which 7 and 3 have something, in this order.
func busy(t *testing.T) *Ledger {
	t.Helper()
	s := setUp(api.Res{Cpu: 8, Mem: 8, Gpu: 2}, api.Res{Cpu: 4, Mem: 9, Lic: 1}, cpu(mostRes))
	return must(t, s, alloc(7, api.Res{Cpu: 2, Mem: 1}, 0, 3, 1, 1), alloc(3, api.Res{Mem: 2, Lic: 1}, 1, 1))
}

// busyFree and busyAll are what busy tells.
func busyFree() []api.Res {
	return []api.Res{{Cpu: 2, Mem: 5, Gpu: 2}, {Cpu: 2, Mem: 6}, cpu(mostRes)}
}

func busyAll() []api.Alloc {
	return []api.Alloc{alloc(3, api.Res{Mem: 2, Lic: 1}, 1, 1), alloc(7, api.Res{Cpu: 2, Mem: 1}, 0, 3, 1, 1)}
}

func TestP14_1New(t *testing.T) {
	most := make([]api.Res, 16)
	for i := range most {
		most[i] = api.Res{Cpu: mostRes, Mem: mostRes, Gpu: mostRes, Lic: mostRes}
	}
	for _, nodes := range [][]api.Res{spec.Small().Nodes, {{}}, {cpu(4)}, {cpu(4), {}, cpu(mostRes)}, most} {
		check(t, must(t, setUp(nodes...)), nodes)
	}
	for name, spoil := range map[string]func(s *api.Spec){
		"no nodes":             func(s *api.Spec) { s.Nodes = nil },
		"too many nodes":       func(s *api.Spec) { s.Nodes = make([]api.Res, 17) },
		"a node below 0":       func(s *api.Spec) { s.Nodes[1].Lic = -1 },
		"a node too great":     func(s *api.Spec) { s.Nodes[1].Mem = mostRes + 1 },
		"no parts":             func(s *api.Spec) { s.Parts = nil },
		"a part of no node":    func(s *api.Spec) { s.Parts[0][1] = 2 },
		"no users":             func(s *api.Spec) { s.Users = 0 },
		"a queue without part": func(s *api.Spec) { s.Queues[1].Part = 2 },
		"a cache below 0":      func(s *api.Spec) { s.Cache = -1 },
		"nothing":              func(s *api.Spec) { *s = api.Spec{} },
	} {
		s := spec.Small()
		spoil(&s)
		if x, err := New(s); x != nil || err != api.ErrArg {
			t.Errorf("%s: New = %v, %d", name, x, err)
		}
	}
}

func TestP14_1TakeCases(t *testing.T) {
	for _, c := range []struct {
		name string
		a    api.Alloc
		err  api.Errno
	}{
		{"of one node", alloc(1, cpu(1), 0, 1), api.OK},
		{"of all nodes", alloc(1, cpu(1), 0, 2, 1, 2, 2, mostMany), api.OK},
		{"of the first and the last node", alloc(5, cpu(2), 0, 1, 2, 1), api.OK},
		{"all that is left", alloc(8, api.Res{Cpu: 2, Mem: 5, Gpu: 2}, 0, 1), api.OK},
		{"all that is left of the greatest node", alloc(8, cpu(mostRes), 2, 1), api.OK},
		{"all that is left, in as many chunks as may be", alloc(8, cpu(mostRes/mostMany), 2, mostMany), api.OK},
		{"the last job", alloc(mostIds, cpu(1), 0, 1), api.OK},
		{"nothing of a node", alloc(1, api.Res{}, 0, 1), api.OK},
		{"nothing, many times", alloc(1, api.Res{}, 0, mostMany, 1, mostMany, 2, mostMany), api.OK},
		{"job 0", alloc(0, cpu(1), 0, 1), api.ErrArg},
		{"a job below 0", alloc(-1, cpu(1), 0, 1), api.ErrArg},
		{"a job above all", alloc(mostIds+1, cpu(1), 0, 1), api.ErrArg},
		{"no shares", alloc(1, cpu(1)), api.ErrArg},
		{"an empty list of shares", api.Alloc{Job: 1, Need: cpu(1), Shares: []api.Share{}}, api.ErrArg},
		{"no shares of nothing", alloc(1, api.Res{}), api.ErrArg},
		{"a node that there isn't", alloc(1, cpu(1), 3, 1), api.ErrArg},
		{"a node that there isn't, behind one", alloc(1, cpu(1), 0, 1, 3, 1), api.ErrArg},
		{"a node below 0", alloc(1, cpu(1), -1, 1), api.ErrArg},
		{"a share of none", alloc(1, cpu(1), 0, 0), api.ErrArg},
		{"a share of fewer than none", alloc(1, cpu(1), 0, -1), api.ErrArg},
		{"a share of too many", alloc(1, cpu(1), 2, mostMany+1), api.ErrArg},
		{"a share of too many of nothing", alloc(1, api.Res{}, 2, mostMany+1), api.ErrArg},
		{"shares that fall", alloc(1, cpu(1), 1, 1, 0, 1), api.ErrArg},
		{"a node twice", alloc(1, cpu(1), 1, 1, 1, 1), api.ErrArg},
		{"a Need below 0", alloc(1, cpu(-1), 0, 1), api.ErrArg},
		{"a Need below 0 behind others", alloc(1, api.Res{Cpu: 1, Lic: -1}, 0, 1), api.ErrArg},
		{"a Need too great", alloc(1, cpu(mostRes+1), 2, 1), api.ErrArg},
		{"a job that has something", alloc(7, cpu(1), 0, 1), api.ErrState},
		{"a job that has something, of another node", alloc(3, cpu(1), 0, 1), api.ErrState},
		{"a job that has something, and nothing more", alloc(3, api.Res{}, 0, 1), api.ErrState},
		{"a job that has just that", alloc(3, api.Res{Mem: 2, Lic: 1}, 1, 1), api.ErrState},
		{"too much", alloc(1, cpu(3), 0, 1), api.ErrOver},
		{"too much by its times", alloc(1, cpu(1), 0, 3), api.ErrOver},
		{"too much of the second thing", alloc(1, api.Res{Cpu: 1, Mem: 6}, 0, 1), api.ErrOver},
		{"too much of the third thing", alloc(1, api.Res{Cpu: 1, Gpu: 1}, 0, 1, 1, 1), api.ErrOver},
		{"too much of the fourth thing", alloc(1, api.Res{Lic: 1}, 1, 1), api.ErrOver},
		{"too much of the last node alone", alloc(1, api.Res{Cpu: 1, Mem: 1}, 0, 1, 1, 1, 2, 1), api.ErrOver},
		{"too much of the first node alone", alloc(1, cpu(2), 0, 2, 1, 1), api.ErrOver},
		{"too much by one chunk", alloc(1, cpu(mostRes/mostMany+1), 2, mostMany), api.ErrOver},
		{"too much for a number", alloc(1, cpu(mostRes), 2, mostMany), api.ErrOver},
		{"no right job, that would be too much", alloc(0, cpu(3), 0, 1), api.ErrArg},
		{"too much, then what isn't right", alloc(1, cpu(3), 0, 1, 1, 0), api.ErrArg},
		{"a job that has something, and no shares", alloc(7, cpu(1)), api.ErrArg},
		{"a job that has something, and a wrong Need", alloc(7, cpu(-1), 0, 1), api.ErrArg},
		{"a job that has something, and a wrong share", alloc(7, cpu(1), 0, 0), api.ErrArg},
		{"a job that has something, and too much", alloc(7, cpu(9), 0, 1), api.ErrState},
	} {
		t.Run(c.name, func(t *testing.T) {
			x, a := busy(t), api.Alloc{Job: c.a.Job, Need: c.a.Need, Shares: slices.Clone(c.a.Shares)}
			if err := x.Take(a); err != c.err || !slices.Equal(a.Shares, c.a.Shares) {
				t.Fatalf("Take(%v) = %d, want %d", a, err, c.err)
			}
			free, all := busyFree(), busyAll()
			if c.err == api.OK {
				for _, s := range a.Shares {
					free[s.Node].Cpu -= a.Need.Cpu * s.Many
					free[s.Node].Mem -= a.Need.Mem * s.Many
					free[s.Node].Gpu -= a.Need.Gpu * s.Many
				}
				all = append(all, a)
				slices.SortFunc(all, func(a, b api.Alloc) int { return a.Job - b.Job })
			}
			check(t, x, free, all...)
		})
	}
}

func TestP14_1TakeOfFarNumbers(t *testing.T) {
	x := busy(t)
	for _, n := range far {
		for i, a := range []api.Alloc{
			alloc(n, cpu(1), 0, 1),
			alloc(1, cpu(n), 0, 1),
			alloc(1, api.Res{Mem: n}, 0, 1),
			alloc(1, api.Res{Gpu: n}, 0, 1),
			alloc(1, api.Res{Lic: n}, 0, 1),
			alloc(1, api.Res{}, n, 1),
			alloc(1, api.Res{}, 0, 1, n, 1),
			alloc(1, api.Res{}, 0, n),
			alloc(1, api.Res{}, 0, 1, 1, n),
			alloc(n, cpu(n), n, n),
		} {
			if err := x.Take(a); err != api.ErrArg {
				t.Errorf("with %d, in place %d: Take(%v) = %d", n, i, a, err)
			}
		}
	}
	check(t, x, busyFree(), busyAll()...)
}

func TestP14_1Give(t *testing.T) {
	x := busy(t)
	for _, job := range append([]int{0, 1, 2, 4, 6, 8, mostIds}, far...) {
		if err := x.Give(job); err != api.ErrNone {
			t.Errorf("Give(%d) = %d", job, err)
		}
	}
	check(t, x, busyFree(), busyAll()...)
	if err := x.Give(7); err != api.OK {
		t.Errorf("Give(7) = %d", err)
	}
	check(t, x, []api.Res{{Cpu: 8, Mem: 8, Gpu: 2}, {Cpu: 4, Mem: 7}, cpu(mostRes)}, busyAll()[0])
	if err := x.Give(7); err != api.ErrNone {
		t.Errorf("Give(7) again = %d", err)
	}
	check(t, x, []api.Res{{Cpu: 8, Mem: 8, Gpu: 2}, {Cpu: 4, Mem: 7}, cpu(mostRes)}, busyAll()[0])
	if err := x.Give(3); err != api.OK {
		t.Errorf("Give(3) = %d", err)
	}
	check(t, x, []api.Res{{Cpu: 8, Mem: 8, Gpu: 2}, {Cpu: 4, Mem: 9, Lic: 1}, cpu(mostRes)})
}

func TestP14_1AJobMayHaveSomethingAgain(t *testing.T) {
	x := busy(t)
	again := alloc(7, cpu(4), 0, 2, 1, 1)
	if err := x.Take(again); err != api.ErrState {
		t.Errorf("Take ahead of Give = %d", err)
	}
	if err := x.Give(7); err != api.OK {
		t.Errorf("Give(7) = %d", err)
	}
	if err := x.Take(again); err != api.OK {
		t.Errorf("Take behind Give = %d", err)
	}
	check(t, x, []api.Res{{Mem: 8, Gpu: 2}, {Mem: 7}, cpu(mostRes)}, busyAll()[0], again)
}

func TestP14_1AJobThatHasNothingOfANode(t *testing.T) {
	x := busy(t)
	nothing := alloc(5, api.Res{}, 0, 2)
	if err := x.Take(nothing); err != api.OK {
		t.Errorf("Take(%v) = %d", nothing, err)
	}
	check(t, x, busyFree(), busyAll()[0], nothing, busyAll()[1])
	if err := x.Take(alloc(5, cpu(1), 0, 1)); err != api.ErrState {
		t.Errorf("Take for a job with an allocation of nothing = %d", err)
	}
	if err := x.Give(5); err != api.OK {
		t.Errorf("Give(5) = %d", err)
	}
	check(t, x, busyFree(), busyAll()...)
}

func TestP14_2AllByRisingJobs(t *testing.T) {
	jobs := []int{900, 2, mostIds, 33, 1, 257, 65537, 17, 4, 65536, 256, 3, mostIds - 1, 1000, 16, 32}
	x := must(t, setUp(cpu(8), cpu(8)))
	var all []api.Alloc
	for i, job := range jobs {
		a := alloc(job, cpu(1), i%2, 1)
		if err := x.Take(a); err != api.OK {
			t.Fatalf("Take(%v) = %d", a, err)
		}
		all = append(all, a)
		slices.SortFunc(all, func(a, b api.Alloc) int { return a.Job - b.Job })
		if got := x.All(); !reflect.DeepEqual(got, all) {
			t.Fatalf("All() = %v, want %v", got, all)
		}
	}
	for _, job := range jobs[:8] {
		if err := x.Give(job); err != api.OK {
			t.Fatalf("Give(%d) = %d", job, err)
		}
		all = slices.DeleteFunc(all, func(a api.Alloc) bool { return a.Job == job })
		if got := x.All(); !reflect.DeepEqual(got, all) {
			t.Fatalf("All() = %v, want %v", got, all)
		}
	}
}

func TestP14_2TheChaptersExample(t *testing.T) {
	x := must(t, setUp(cpu(4)), alloc(1, cpu(3), 0, 1))
	check(t, x, []api.Res{cpu(1)}, alloc(1, cpu(3), 0, 1))
	if err := x.Give(1); err != api.OK {
		t.Errorf("Give(1) = %d", err)
	}
	check(t, x, []api.Res{cpu(4)})
}

func TestP14_2CloneChangesByItself(t *testing.T) {
	x := busy(t)
	y := x.Clone()
	if y == x {
		t.Fatal("the clone is the ledger itself")
	}
	check(t, y, busyFree(), busyAll()...)
	if err := x.Give(7); err != api.OK {
		t.Fatalf("Give(7) = %d", err)
	}
	check(t, y, busyFree(), busyAll()...)
	if err := y.Take(alloc(5, cpu(1), 0, 2, 2, 3)); err != api.OK {
		t.Fatalf("Take = %d", err)
	}
	freeOfX := []api.Res{{Cpu: 8, Mem: 8, Gpu: 2}, {Cpu: 4, Mem: 7}, cpu(mostRes)}
	freeOfY := []api.Res{{Mem: 5, Gpu: 2}, {Cpu: 2, Mem: 6}, cpu(mostRes - 3)}
	check(t, x, freeOfX, busyAll()[0])
	check(t, y, freeOfY, busyAll()[0], alloc(5, cpu(1), 0, 2, 2, 3), busyAll()[1])
	z := y.Clone()
	if err := y.Give(3); err != api.OK {
		t.Fatalf("Give(3) = %d", err)
	}
	check(t, z, freeOfY, busyAll()[0], alloc(5, cpu(1), 0, 2, 2, 3), busyAll()[1])
	check(t, x, freeOfX, busyAll()[0])
}

func TestP14_2CloneWithoutAllocations(t *testing.T) {
	x := must(t, setUp(cpu(4)))
	y := x.Clone()
	if err := y.Take(alloc(1, cpu(3), 0, 1)); err != api.OK {
		t.Fatalf("Take = %d", err)
	}
	check(t, x, []api.Res{cpu(4)})
	check(t, y, []api.Res{cpu(1)}, alloc(1, cpu(3), 0, 1))
}

func TestP14_2AnswersAreNewMemory(t *testing.T) {
	x := busy(t)
	a, _ := x.Of(7)
	clear(a.Shares)
	all := x.All()
	for i := range all {
		clear(all[i].Shares)
	}
	clear(all)
	clear(x.Free())
	check(t, x, busyFree(), busyAll()...)
	y := x.Clone()
	b, _ := y.Of(7)
	clear(b.Shares)
	clear(y.Free())
	check(t, x, busyFree(), busyAll()...)
	check(t, y, busyFree(), busyAll()...)
}

func TestP14_2WhatIsHandedInIsNeitherChangedNorKept(t *testing.T) {
	s := setUp(cpu(8), cpu(4))
	x := must(t, s)
	a := alloc(2, cpu(2), 0, 2, 1, 1)
	if err := x.Take(a); err != api.OK {
		t.Fatalf("Take = %d", err)
	}
	clear(a.Shares)
	check(t, x, []api.Res{cpu(4), cpu(2)}, alloc(2, cpu(2), 0, 2, 1, 1))
	clear(x.Free())
	if err := x.Give(2); err != api.OK {
		t.Fatalf("Give(2) = %d", err)
	}
	check(t, x, []api.Res{cpu(8), cpu(4)})
	if !slices.Equal(s.Nodes, []api.Res{cpu(8), cpu(4)}) {
		t.Errorf("the set-up's nodes are %v", s.Nodes)
	}
}

func TestP14_2LedgerThatIsNone(t *testing.T) {
	var x *Ledger
	for _, a := range []api.Alloc{alloc(1, cpu(1), 0, 1), alloc(0, cpu(-1)), {}} {
		if err := x.Take(a); err != api.ErrNil {
			t.Errorf("Take(%v) = %d", a, err)
		}
	}
	for _, job := range append([]int{0, 1}, far...) {
		if err := x.Give(job); err != api.ErrNil {
			t.Errorf("Give(%d) = %d", job, err)
		}
	}
	if x.Clone() != nil {
		t.Error("the clone of none is one")
	}
	check(t, x, nil)
}

// model says chunk by chunk what a ledger has to.
type model struct {
	nodes [][4]int
	all   []api.Alloc
}

func four(a api.Res) [4]int { return [4]int{a.Cpu, a.Mem, a.Gpu, a.Lic} }

// left is of each node what is left, below 0, if more is taken than it has.
func (m *model) left() [][4]int {
	left := slices.Clone(m.nodes)
	for _, a := range m.all {
		for _, s := range a.Shares {
			for range s.Many {
				for i, n := range four(a.Need) {
					left[s.Node][i] -= n
				}
			}
		}
	}
	return left
}

func (m *model) has(job int) bool {
	return slices.ContainsFunc(m.all, func(a api.Alloc) bool { return a.Job == job })
}

// take asks for the errors in the chapter's order.
func (m *model) take(a api.Alloc) api.Errno {
	last := -1
	for _, s := range a.Shares {
		if s.Node <= last || s.Node >= len(m.nodes) || s.Many < 1 || s.Many > mostMany {
			return api.ErrArg
		}
		last = s.Node
	}
	if need := four(a.Need); a.Job < 1 || a.Job > mostIds || len(a.Shares) == 0 || slices.Min(need[:]) < 0 {
		return api.ErrArg
	}
	if m.has(a.Job) {
		return api.ErrState
	}
	more := &model{m.nodes, append(slices.Clone(m.all), a)}
	for _, l := range more.left() {
		if slices.Min(l[:]) < 0 {
			return api.ErrOver
		}
	}
	slices.SortFunc(more.all, func(a, b api.Alloc) int { return a.Job - b.Job })
	m.all = more.all
	return api.OK
}

func (m *model) give(job int) api.Errno {
	if !m.has(job) {
		return api.ErrNone
	}
	m.all = slices.DeleteFunc(slices.Clone(m.all), func(a api.Alloc) bool { return a.Job == job })
	return api.OK
}

func (m *model) free() []api.Res {
	var l []api.Res
	for _, n := range m.left() {
		l = append(l, api.Res{Cpu: n[0], Mem: n[1], Gpu: n[2], Lic: n[3]})
	}
	return l
}

// drawNode is what a node has.
func drawNode(from *rand.Rand) api.Res {
	return api.Res{Cpu: 3 + from.Intn(12), Mem: 3 + from.Intn(9), Gpu: from.Intn(4), Lic: from.Intn(3)}
}

// draw is an allocation of these nodes, that is right but now and then.
func draw(from *rand.Rand, nodes int) api.Alloc {
	a := api.Alloc{Job: 1 + from.Intn(12), Need: api.Res{Cpu: from.Intn(4), Mem: from.Intn(3)}}
	if from.Intn(4) == 0 {
		a.Need.Gpu, a.Need.Lic = from.Intn(2), from.Intn(2)
	}
	for node := range nodes {
		if from.Intn(nodes) < 2 {
			a.Shares = append(a.Shares, api.Share{Node: node, Many: 1 + from.Intn(3)})
		}
	}
	switch from.Intn(40) {
	case 0:
		a.Job = 0
	case 1:
		a.Need.Mem = -1
	case 2:
		a.Shares = append(a.Shares, api.Share{Node: nodes, Many: 1})
	case 3:
		a.Shares = append(a.Shares, api.Share{Node: 0, Many: 1})
	}
	return a
}

// checkTogether asks whether what is left, and what all have, is together what the nodes have.
func checkTogether(t *testing.T, x *Ledger, nodes []api.Res) {
	t.Helper()
	var together [][4]int
	for _, free := range x.Free() {
		together = append(together, four(free))
	}
	for _, a := range x.All() {
		for _, s := range a.Shares {
			for i, n := range four(a.Need) {
				together[s.Node][i] += n * s.Many
			}
		}
	}
	for i, has := range nodes {
		if together[i] != four(has) {
			t.Fatalf("node %d has %v, what is left and taken is %v", i, has, together[i])
		}
	}
	if len(together) != len(nodes) {
		t.Fatalf("of %d nodes: %v", len(nodes), together)
	}
}

func TestP14_3OfMany(t *testing.T) {
	from := rand.New(rand.NewSource(41))
	told := map[string]map[api.Errno]int{"take": {}, "give": {}}
	for range 150 {
		var nodes []api.Res
		for range 1 + from.Intn(5) {
			nodes = append(nodes, drawNode(from))
		}
		x, m := must(t, setUp(nodes...)), &model{}
		for _, n := range nodes {
			m.nodes = append(m.nodes, four(n))
		}
		for range 40 {
			was, clone := *m, x.Clone()
			if from.Intn(5) < 3 {
				a := draw(from, len(nodes))
				want := m.take(a)
				if err := x.Take(a); err != want {
					t.Fatalf("of %v: Take(%v) = %d, want %d", was, a, err, want)
				}
				told["take"][want]++
			} else {
				job := from.Intn(14)
				want := m.give(job)
				if err := x.Give(job); err != want {
					t.Fatalf("of %v: Give(%d) = %d, want %d", was, job, err, want)
				}
				told["give"][want]++
			}
			check(t, x, m.free(), m.all...)
			check(t, clone, was.free(), was.all...)
			checkTogether(t, x, nodes)
			checkTogether(t, clone, nodes)
		}
	}
	for what, errs := range map[string][]api.Errno{"take": {api.OK, api.ErrArg, api.ErrState, api.ErrOver}, "give": {api.OK, api.ErrNone}} {
		for _, err := range errs {
			if told[what][err] < 100 {
				t.Errorf("%s: error %d was told %d times", what, err, told[what][err])
			}
		}
	}
}

func TestP14_3AllGivenIsAllThere(t *testing.T) {
	nodes := []api.Res{{Cpu: mostRes, Mem: mostRes, Gpu: mostRes, Lic: mostRes}, {Cpu: 7, Lic: 3}}
	x := must(t, setUp(nodes...),
		alloc(9, api.Res{Cpu: mostRes / mostMany, Mem: mostRes / mostMany, Gpu: 1, Lic: mostRes / mostMany}, 0, mostMany),
		alloc(2, api.Res{Gpu: mostRes - mostMany}, 0, 1),
		alloc(4, api.Res{Cpu: 2, Lic: 1}, 1, 3))
	check(t, x, []api.Res{{}, cpu(1)}, x.All()...)
	checkTogether(t, x, nodes)
	for _, job := range []int{2, 9, 4} {
		if err := x.Give(job); err != api.OK {
			t.Errorf("Give(%d) = %d", job, err)
		}
		checkTogether(t, x, nodes)
	}
	check(t, x, nodes)
}
