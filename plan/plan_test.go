package plan

import (
	"math"
	"math/rand"
	"reflect"
	"slices"
	"testing"

	"drayage/api"
	"drayage/spec"
)

const (
	mostRes    = 1 << 20
	mostNumber = 1 << 48
	mostTime   = 1 << 40
	mostWall   = 1 << 16
	mostMany   = 64
	mostBooks  = 16
)

// far are numbers below and above all that is asked of: those that fewer bits would take for others are among them.
var far = []int{math.MinInt, math.MinInt + 1, math.MinInt + 2, -1 << 62, -1 << 48, -1<<40 + 1, -1<<32 + 1, -1 << 32, -256, -2, -1, mostNumber + 1, mostNumber + 2, 1<<56 + 1, 1 << 62, math.MaxInt - 1, math.MaxInt}

func cpu(n int) api.Res { return api.Res{Cpu: n} }

// on are shares, of each two numbers one.
func on(numbers ...int) []api.Share {
	var l []api.Share
	for i := 0; i < len(numbers); i += 2 {
		l = append(l, api.Share{Node: numbers[i], Many: numbers[i+1]})
	}
	return l
}

func run(need api.Res, until int, shares ...int) api.Run {
	return api.Run{Need: need, Shares: on(shares...), Until: until}
}

func booking(id, node, from, to int) api.Booking {
	return api.Booking{Id: id, Node: node, From: from, To: to}
}

// setUp is a set-up of these nodes and parts.
func setUp(nodes []api.Res, parts ...[]int) api.Spec {
	s := spec.Small()
	s.Nodes, s.Parts = nodes, parts
	for i := range s.Queues {
		s.Queues[i].Part = 0
	}
	return s
}

// must is a profile that there has to be.
func must(t *testing.T, s api.Spec, now int, runs []api.Run, books []api.Booking) *Profile {
	t.Helper()
	p, err := New(s, now, runs, books)
	if err != api.OK || p == nil {
		t.Fatalf("New(%v, %d, %v, %v) = %v, %d", s.Nodes, now, runs, books, p, err)
	}
	return p
}

// piece is something of a node that is taken for a time.
type piece struct {
	node, from, to int
	need           api.Res
	many           int
}

// model says tick by tick what a profile has to.
type model struct {
	s      api.Spec
	now    int
	books  []api.Booking
	pieces []piece
}

// horizon is above all times at which something ends in what is drawn.
const horizon = 48

// free is below 0 where more is taken than there is, or something of what is booked.
func (m *model) free(node, t int) [4]int {
	n := m.s.Nodes[node]
	left := [4]int{n.Cpu, n.Mem, n.Gpu, n.Lic}
	for _, b := range m.books {
		if b.Node == node && b.From <= t && t < b.To {
			left = [4]int{}
		}
	}
	for _, p := range m.pieces {
		if p.node == node && p.from <= t && t < p.to {
			for i, n := range []int{p.need.Cpu, p.need.Mem, p.need.Gpu, p.need.Lic} {
				left[i] -= n * p.many
			}
		}
	}
	return left
}

// sound is whether nothing is taken of what isn't free.
func (m *model) sound() bool {
	for node := range m.s.Nodes {
		for t := m.now; t < horizon; t++ {
			if left := m.free(node, t); slices.Min(left[:]) < 0 {
				return false
			}
		}
	}
	return true
}

func (m *model) wantedFree(t int) []api.Res {
	var l []api.Res
	for node := range m.s.Nodes {
		left := m.free(node, t)
		l = append(l, api.Res{Cpu: left[0], Mem: left[1], Gpu: left[2], Lic: left[3]})
	}
	return l
}

// put is how many chunks there is room for on a node, for a time, found by putting one behind the other.
func (m *model) put(node, most int, need api.Res, from, to int) int {
	many := 0
	for many < most {
		for t := from; t < to; t++ {
			left := m.free(node, t)
			for i, n := range []int{need.Cpu, need.Mem, need.Gpu, need.Lic} {
				if left[i] < n*(many+1) {
					return many
				}
			}
		}
		many++
	}
	return many
}

func (m *model) wantedWhen(part, many int, need api.Res, wall, at int) ([]api.Share, bool) {
	if part < 0 || part >= len(m.s.Parts) || many < 1 || need == (api.Res{}) || wall < 1 || at < m.now {
		return nil, false
	}
	var l []api.Share
	for _, node := range m.s.Parts[part] {
		if n := m.put(node, many, need, at, at+wall); n > 0 {
			l = append(l, api.Share{Node: node, Many: n})
			many -= n
		}
	}
	if many > 0 {
		return nil, false
	}
	return l, true
}

func (m *model) wantedEarliest(part, many int, need api.Res, wall int) (api.Plan, bool) {
	for at := m.now; at <= horizon; at++ {
		if l, ok := m.wantedWhen(part, many, need, wall, at); ok {
			return api.Plan{At: at, Shares: l}, true
		}
	}
	return api.Plan{}, false
}

// take takes it of the model, if that is free.
func (m *model) take(at int, l []api.Share, need api.Res, wall int) bool {
	more := &model{m.s, m.now, m.books, slices.Clone(m.pieces)}
	for _, s := range l {
		more.pieces = append(more.pieces, piece{s.Node, at, at + wall, need, s.Many})
	}
	if !more.sound() {
		return false
	}
	m.pieces = more.pieces
	return true
}

// drawn is a set-up, with runs and bookings that may meet one another.
type drawn struct {
	s     api.Spec
	now   int
	runs  []api.Run
	books []api.Booking
}

func drawNeed(from *rand.Rand) api.Res {
	a := api.Res{Cpu: from.Intn(4), Mem: from.Intn(3)}
	if from.Intn(4) == 0 {
		a.Gpu = from.Intn(2)
	}
	if from.Intn(6) == 0 {
		a.Lic = 1
	}
	return a
}

func drawShares(from *rand.Rand, nodes, most int) []api.Share {
	var l []api.Share
	for node := range nodes {
		if from.Intn(3) == 0 {
			l = append(l, api.Share{Node: node, Many: 1 + from.Intn(most)})
		}
	}
	return l
}

func draw(from *rand.Rand) drawn {
	d := drawn{now: from.Intn(8)}
	var nodes []api.Res
	for range 1 + from.Intn(4) {
		nodes = append(nodes, api.Res{Cpu: 4 + from.Intn(5), Mem: 4 + from.Intn(5), Gpu: from.Intn(3), Lic: from.Intn(2)})
	}
	var all, some []int
	for i := range nodes {
		all = append(all, i)
		if from.Intn(2) == 0 {
			some = append(some, i)
		}
	}
	if len(some) == 0 {
		some = []int{0}
	}
	d.s = setUp(nodes, all, some)
	for range from.Intn(5) {
		d.runs = append(d.runs, api.Run{Need: drawNeed(from), Shares: drawShares(from, len(nodes), 2), Until: d.now + 1 + from.Intn(20)})
	}
	at := make([]int, len(nodes)) // behind what is booked of each node
	for id := range from.Intn(6) {
		node := from.Intn(len(nodes))
		begin := at[node] + from.Intn(14)
		at[node] = begin + 1 + from.Intn(6)
		if at[node] < horizon {
			d.books = append(d.books, booking(id+1, node, begin, at[node]))
		}
	}
	return d
}

func (d drawn) model() *model {
	m := &model{s: d.s, now: d.now, books: d.books}
	for _, r := range d.runs {
		for _, s := range r.Shares {
			m.pieces = append(m.pieces, piece{s.Node, d.now, r.Until, r.Need, s.Many})
		}
	}
	return m
}

// fresh is a drawn one that runs nowhere over, and both of it.
func fresh(t *testing.T, from *rand.Rand) (drawn, *model, *Profile) {
	t.Helper()
	for {
		d := draw(from)
		m := d.model()
		p, err := New(d.s, d.now, d.runs, d.books)
		if (err == api.OK) != m.sound() || err != api.OK && (err != api.ErrOver || p != nil) {
			t.Fatalf("New of %+v = %v, %d; %v", d, p, err, m.sound())
		}
		if err == api.OK {
			return d, m, p
		}
	}
}

// checkFree holds what is free at each time against what is wanted.
func checkFree(t *testing.T, p *Profile, m *model) {
	t.Helper()
	for at := m.now; at <= horizon; at++ {
		if got, want := p.Free(at), m.wantedFree(at); !slices.Equal(got, want) {
			t.Fatalf("of %+v: Free(%d) = %v, want %v", m, at, got, want)
		}
	}
}

// checkWhen holds When against what is wanted.
func checkWhen(t *testing.T, p *Profile, part, many int, need api.Res, wall, at int, want []api.Share, wantOk bool) {
	t.Helper()
	got, ok := p.When(part, many, need, wall, at)
	if ok != wantOk || !slices.Equal(got, want) {
		t.Errorf("When(%d, %d, %v, %d, %d) = %v, %v; want %v, %v", part, many, need, wall, at, got, ok, want, wantOk)
	}
}

// checkEarliest does it of Earliest; want is at a time below 0, if there is none.
func checkEarliest(t *testing.T, p *Profile, part, many int, need api.Res, wall, at int, shares ...int) {
	t.Helper()
	got, ok := p.Earliest(part, many, need, wall)
	want := api.Plan{At: at, Shares: on(shares...)}
	if at < 0 {
		want = api.Plan{}
	}
	if ok != (at >= 0) || got.Job != 0 || got.At != want.At || !slices.Equal(got.Shares, want.Shares) {
		t.Errorf("Earliest(%d, %d, %v, %d) = %v, %v; want %v", part, many, need, wall, got, ok, want)
	}
}

func TestP13_1NewErrors(t *testing.T) {
	two := setUp([]api.Res{cpu(4), {Cpu: 8, Mem: 2}}, []int{0, 1})
	wrong := setUp([]api.Res{cpu(4), cpu(-1)}, []int{0, 1})
	none := setUp(nil, []int{0, 1})
	late := setUp([]api.Res{cpu(4), cpu(8)}, []int{0, 1})
	late.Cache = -1
	full := run(cpu(2), 10, 0, 2)
	var many []api.Booking
	for i := range mostBooks + 1 {
		many = append(many, booking(i+1, 0, i, i+1))
	}
	for _, c := range []struct {
		name  string
		s     api.Spec
		now   int
		runs  []api.Run
		books []api.Booking
		err   api.Errno
	}{
		{"nothing taken", two, 3, nil, nil, api.OK},
		{"empty lists", two, 3, []api.Run{}, []api.Booking{}, api.OK},
		{"at 0", two, 0, nil, nil, api.OK},
		{"at the end of all time", two, mostTime, nil, nil, api.OK},
		{"all of a node", two, 3, []api.Run{full}, nil, api.OK},
		{"a tick only", two, 3, []api.Run{run(cpu(2), 4, 0, 2)}, nil, api.OK},
		{"for ever, nearly", two, mostTime, []api.Run{run(cpu(2), mostNumber, 0, 2)}, nil, api.OK},
		{"as much as there may be in a share", setUp([]api.Res{cpu(mostRes)}, []int{0}), 3, []api.Run{run(cpu(mostRes/mostMany), 9, 0, mostMany)}, nil, api.OK},
		{"a run of no shares", two, 3, []api.Run{run(cpu(mostRes), 10)}, nil, api.OK},
		{"nothing, many times", two, 3, []api.Run{run(api.Res{}, 10, 0, mostMany)}, nil, api.OK},
		{"a run up to a booking", two, 3, []api.Run{full}, []api.Booking{booking(1, 0, 10, 12)}, api.OK},
		{"a run behind a booking", two, 3, []api.Run{full}, []api.Booking{booking(1, 0, 1, 3)}, api.OK},
		{"a run beside a booking", two, 3, []api.Run{full}, []api.Booking{booking(1, 1, 1, 20)}, api.OK},
		{"nothing of what is booked", two, 3, []api.Run{run(api.Res{}, 10, 0, 1)}, []api.Booking{booking(1, 0, 0, 20)}, api.OK},
		{"as many bookings as there may be", two, 3, nil, many[:mostBooks], api.OK},
		{"a set-up that isn't right", wrong, 3, nil, nil, api.ErrArg},
		{"a set-up without a node", none, 3, nil, nil, api.ErrArg},
		{"a set-up that isn't right behind", late, 3, nil, nil, api.ErrArg},
		{"no set-up", api.Spec{}, 3, nil, nil, api.ErrArg},
		{"ahead of all time", two, -1, nil, nil, api.ErrArg},
		{"behind all time", two, mostTime + 1, []api.Run{run(cpu(1), mostTime+9, 0, 1)}, nil, api.ErrArg},
		{"a booking of a node that there isn't", two, 3, nil, []api.Booking{booking(1, 2, 5, 8)}, api.ErrArg},
		{"bookings that meet", two, 3, nil, []api.Booking{booking(1, 0, 5, 8), booking(2, 0, 7, 9)}, api.ErrArg},
		{"bookings that met", two, 30, nil, []api.Booking{booking(1, 0, 5, 8), booking(2, 0, 7, 9)}, api.ErrArg},
		{"an Id of 0", two, 3, nil, []api.Booking{booking(0, 0, 5, 8)}, api.ErrArg},
		{"a booking beyond all time", two, 3, nil, []api.Booking{booking(1, 0, 5, mostTime+1)}, api.ErrArg},
		{"more bookings than there may be", two, 3, nil, many, api.ErrArg},
		{"a share of a node that there isn't", two, 3, []api.Run{run(cpu(1), 10, 2, 1)}, nil, api.ErrArg},
		{"a share of a node below 0", two, 3, []api.Run{run(cpu(1), 10, -1, 1)}, nil, api.ErrArg},
		{"shares that fall", two, 3, []api.Run{run(cpu(1), 10, 1, 1, 0, 1)}, nil, api.ErrArg},
		{"a share twice", two, 3, []api.Run{run(cpu(1), 10, 1, 1, 1, 1)}, nil, api.ErrArg},
		{"a share of none", two, 3, []api.Run{run(cpu(1), 10, 1, 0)}, nil, api.ErrArg},
		{"a share of too many", two, 3, []api.Run{run(api.Res{}, 10, 1, mostMany+1)}, nil, api.ErrArg},
		{"a Need below 0", two, 3, []api.Run{run(cpu(-1), 10, 1, 1)}, nil, api.ErrArg},
		{"a Need too great", two, 3, []api.Run{run(cpu(mostRes+1), 10, 1, 1)}, nil, api.ErrArg},
		{"a Need that isn't right, of no shares", two, 3, []api.Run{run(cpu(mostRes+1), 10)}, nil, api.ErrArg},
		{"until now", two, 3, []api.Run{run(cpu(1), 3, 1, 1)}, nil, api.ErrArg},
		{"until ahead of now", two, 3, []api.Run{run(cpu(1), 2, 1, 1)}, nil, api.ErrArg},
		{"until now, of no shares", two, 3, []api.Run{run(cpu(1), 3)}, nil, api.ErrArg},
		{"until beyond all numbers", two, 3, []api.Run{run(cpu(1), mostNumber+1, 1, 1)}, nil, api.ErrArg},
		{"until beyond all numbers, of no shares", two, 3, []api.Run{run(cpu(1), mostNumber+1)}, nil, api.ErrArg},
		{"until the last number, of no shares", two, 3, []api.Run{run(cpu(1), mostNumber)}, nil, api.OK},
		{"the second run", two, 3, []api.Run{run(cpu(1), 10, 1, 1), run(cpu(1), 3, 1, 1)}, nil, api.ErrArg},
		{"too much, then what isn't right", two, 3, []api.Run{run(cpu(5), 10, 0, 1), run(cpu(1), 3, 1, 1)}, nil, api.ErrArg},
		{"what is booked, then what isn't right", two, 3, []api.Run{full, run(cpu(-1), 5, 1, 1)}, []api.Booking{booking(1, 0, 5, 8)}, api.ErrArg},
		{"too much at once", two, 3, []api.Run{run(cpu(5), 10, 0, 1)}, nil, api.ErrOver},
		{"too much, a tick only", two, 3, []api.Run{run(cpu(5), 4, 0, 1)}, nil, api.ErrOver},
		{"too much by its times", two, 3, []api.Run{run(cpu(2), 10, 0, 3)}, nil, api.ErrOver},
		{"too much by its times for a number", two, 3, []api.Run{run(cpu(mostRes), 10, 0, mostMany)}, nil, api.ErrOver},
		{"too much by two", two, 3, []api.Run{full, run(cpu(1), 4, 0, 1)}, nil, api.ErrOver},
		{"too much of another number", two, 3, []api.Run{run(api.Res{Cpu: 1, Mem: 1}, 4, 0, 1)}, nil, api.ErrOver},
		{"too much on the second node", two, 3, []api.Run{run(api.Res{Cpu: 1, Mem: 1}, 4, 1, 3)}, nil, api.ErrOver},
		{"a tick of what is booked", two, 3, []api.Run{run(cpu(1), 11, 0, 1)}, []api.Booking{booking(1, 0, 10, 12)}, api.ErrOver},
		{"the last tick of what is booked", two, 3, []api.Run{run(cpu(1), 11, 0, 1)}, []api.Booking{booking(1, 0, 1, 4)}, api.ErrOver},
		{"booked all the while", two, 3, []api.Run{run(api.Res{Mem: 1}, 11, 1, 1)}, []api.Booking{booking(1, 1, 0, mostTime)}, api.ErrOver},
		{"the second booking", two, 3, []api.Run{run(cpu(1), 11, 0, 1)}, []api.Booking{booking(1, 1, 3, 12), booking(2, 0, 10, 12)}, api.ErrOver},
	} {
		t.Run(c.name, func(t *testing.T) {
			p, err := New(c.s, c.now, c.runs, c.books)
			if err != c.err || (p == nil) != (err != api.OK) {
				t.Fatalf("New = %v, %d; want error %d", p, err, c.err)
			}
			if p.Now() != c.now && err == api.OK {
				t.Errorf("Now() = %d, want %d", p.Now(), c.now)
			}
		})
	}
}

func TestP13_1NewOfFarNumbers(t *testing.T) {
	s := setUp([]api.Res{cpu(4), cpu(8)}, []int{0, 1})
	for _, n := range far {
		for i, runs := range [][]api.Run{
			{run(cpu(1), n, 0, 1)},
			{run(cpu(n), 9, 0, 1)},
			{run(api.Res{Lic: n}, 9, 0, 1)},
			{run(cpu(1), 9, n, 1)},
			{run(cpu(1), 9, 0, n)},
			{run(cpu(n), n, n, n)},
		} {
			if p, err := New(s, 3, runs, nil); p != nil || err != api.ErrArg {
				t.Errorf("with %d, in place %d: error %d", n, i, err)
			}
		}
		if p, err := New(s, n, nil, nil); p != nil || err != api.ErrArg {
			t.Errorf("at %d: error %d", n, err)
		}
		if p, err := New(s, 3, nil, []api.Booking{booking(1, n, 5, 8)}); p != nil || err != api.ErrArg {
			t.Errorf("booked: node %d: error %d", n, err)
		}
	}
}

func TestP13_1FreeCases(t *testing.T) {
	s := setUp([]api.Res{{Cpu: 4, Mem: 8, Lic: 1}, {Cpu: 8, Mem: 8, Gpu: 1}, {Cpu: 1}}, []int{0, 1, 2})
	p := must(t, s, 3, []api.Run{
		run(api.Res{Cpu: 1, Mem: 2}, 10, 0, 2, 1, 3),
		run(api.Res{Cpu: 2, Lic: 1}, 6, 0, 1),
		run(api.Res{Gpu: 1}, 20, 1, 1),
	}, []api.Booking{booking(1, 2, 0, 5), booking(4, 0, 12, 20), booking(7, 2, 5, 6), booking(9, 1, 30, 31)})
	for _, c := range []struct {
		t    int
		want []api.Res
	}{
		{2, nil},
		{0, nil},
		{-1, nil},
		{3, []api.Res{{Mem: 4}, {Cpu: 5, Mem: 2}, {}}},
		{5, []api.Res{{Mem: 4}, {Cpu: 5, Mem: 2}, {}}},
		{6, []api.Res{{Cpu: 2, Mem: 4, Lic: 1}, {Cpu: 5, Mem: 2}, {Cpu: 1}}},
		{9, []api.Res{{Cpu: 2, Mem: 4, Lic: 1}, {Cpu: 5, Mem: 2}, {Cpu: 1}}},
		{10, []api.Res{{Cpu: 4, Mem: 8, Lic: 1}, {Cpu: 8, Mem: 8}, {Cpu: 1}}},
		{11, []api.Res{{Cpu: 4, Mem: 8, Lic: 1}, {Cpu: 8, Mem: 8}, {Cpu: 1}}},
		{12, []api.Res{{}, {Cpu: 8, Mem: 8}, {Cpu: 1}}},
		{19, []api.Res{{}, {Cpu: 8, Mem: 8}, {Cpu: 1}}},
		{20, s.Nodes},
		{29, s.Nodes},
		{30, []api.Res{s.Nodes[0], {}, s.Nodes[2]}},
		{31, s.Nodes},
		{mostTime + 1, s.Nodes},
		{mostNumber + 1, s.Nodes},
		{math.MaxInt, s.Nodes},
		{math.MinInt, nil},
	} {
		if got := p.Free(c.t); !slices.Equal(got, c.want) {
			t.Errorf("Free(%d) = %v, want %v", c.t, got, c.want)
		}
	}
	if p.Now() != 3 {
		t.Errorf("Now() = %d", p.Now())
	}
}

func TestP13_1FreeAtTheEndOfAllTime(t *testing.T) {
	s := setUp([]api.Res{cpu(4)}, []int{0})
	p := must(t, s, mostTime, []api.Run{run(cpu(3), mostNumber, 0, 1)}, []api.Booking{booking(1, 0, 0, mostTime)})
	for _, c := range []struct {
		t    int
		want []api.Res
	}{
		{mostTime - 1, nil},
		{mostTime, []api.Res{cpu(1)}},
		{mostNumber - 1, []api.Res{cpu(1)}},
		{mostNumber, []api.Res{cpu(4)}},
	} {
		if got := p.Free(c.t); !slices.Equal(got, c.want) {
			t.Errorf("Free(%d) = %v, want %v", c.t, got, c.want)
		}
	}
	last := must(t, s, mostTime-1, nil, []api.Booking{booking(1, 0, 0, mostTime)})
	if last.Free(mostTime - 1)[0] != cpu(0) || last.Free(mostTime)[0] != cpu(4) {
		t.Error("a booking up to the end of all time")
	}
}

func TestP13_1OfMany(t *testing.T) {
	from := rand.New(rand.NewSource(31))
	over := 0
	for range 3000 {
		d := draw(from)
		m := d.model()
		runs, books := cloneRuns(d.runs), slices.Clone(d.books)
		p, err := New(d.s, d.now, d.runs, d.books)
		if !reflect.DeepEqual(runs, d.runs) || !slices.Equal(books, d.books) {
			t.Fatal("New changed what it was handed")
		}
		if !m.sound() {
			over++
			if p != nil || err != api.ErrOver {
				t.Fatalf("New of %+v: error %d", d, err)
			}
			continue
		}
		if err != api.OK || p.Now() != d.now {
			t.Fatalf("New of %+v: error %d", d, err)
		}
		checkFree(t, p, m)
	}
	if over < 300 || over > 2700 {
		t.Errorf("%d of 3000 ran over", over)
	}
}

func cloneRuns(l []api.Run) []api.Run {
	c := slices.Clone(l)
	for i := range c {
		c[i].Shares = slices.Clone(c[i].Shares)
	}
	return c
}

// busy is a profile of two nodes with 4 and 8 cpu, from 3 on: node 0 is taken till 10, and booked from 12 to 20, 4 of node 1 are taken till 16.
func busy(t *testing.T) *Profile {
	t.Helper()
	s := setUp([]api.Res{cpu(4), cpu(8)}, []int{0, 1}, []int{1}, []int{0})
	return must(t, s, 3, []api.Run{run(cpu(2), 10, 0, 2), run(cpu(1), 16, 1, 4)}, []api.Booking{booking(1, 0, 12, 20)})
}

func TestP13_2WhenCases(t *testing.T) {
	p := busy(t)
	for _, c := range []struct {
		name       string
		part, many int
		need       api.Res
		wall, at   int
		want       []api.Share
		cannot     bool
	}{
		{name: "at once", many: 1, need: cpu(4), wall: 5, at: 3, want: on(1, 1)},
		{name: "two at once", many: 2, need: cpu(2), wall: 5, at: 3, want: on(1, 2)},
		{name: "more than is free at once", many: 5, need: cpu(1), wall: 5, at: 3, cannot: true},
		{name: "more than is free in its last tick", many: 5, need: cpu(1), wall: 3, at: 10, cannot: true},
		{name: "up to what is booked", many: 5, need: cpu(1), wall: 2, at: 10, want: on(0, 4, 1, 1)},
		{name: "the first node first", many: 1, need: cpu(1), wall: 2, at: 10, want: on(0, 1)},
		{name: "a tick ahead", many: 5, need: cpu(1), wall: 2, at: 9, cannot: true},
		{name: "all that is ever free", many: 12, need: cpu(1), wall: 5, at: 20, want: on(0, 4, 1, 8)},
		{name: "one more", many: 13, need: cpu(1), wall: 5, at: 20, cannot: true},
		{name: "of another part", part: 1, many: 4, need: cpu(1), wall: 5, at: 10, want: on(1, 4)},
		{name: "all of another part", part: 1, many: 8, need: cpu(1), wall: 5, at: 16, want: on(1, 8)},
		{name: "all of another part, a tick ahead", part: 1, many: 8, need: cpu(1), wall: 5, at: 15, cannot: true},
		{name: "between, of the third part", part: 2, many: 1, need: cpu(4), wall: 2, at: 10, want: on(0, 1)},
		{name: "over what is booked", part: 2, many: 1, need: cpu(4), wall: mostWall, at: 10, cannot: true},
		{name: "behind what is booked", part: 2, many: 1, need: cpu(4), wall: mostWall, at: 20, want: on(0, 1)},
		{name: "the longest one, at the end of all time", many: 3, need: cpu(4), wall: mostWall, at: mostTime, want: on(0, 1, 1, 2)},
		{name: "behind all time", many: 1, need: cpu(4), wall: 1, at: mostTime + 1, cannot: true},
		{name: "ahead of now", many: 1, need: cpu(1), wall: 5, at: 2, cannot: true},
		{name: "no part", part: 3, many: 1, need: cpu(1), wall: 5, at: 3, cannot: true},
		{name: "a part below 0", part: -1, many: 1, need: cpu(1), wall: 5, at: 3, cannot: true},
		{name: "no wall", many: 1, need: cpu(1), wall: 0, at: 3, cannot: true},
		{name: "a wall below 0", many: 1, need: cpu(1), wall: -1, at: 3, cannot: true},
		{name: "too long a wall", many: 1, need: cpu(1), wall: mostWall + 1, at: 3, cannot: true},
		{name: "no chunk", many: 0, need: cpu(1), wall: 5, at: 3, cannot: true},
		{name: "fewer chunks than none", many: -1, need: cpu(1), wall: 5, at: 3, cannot: true},
		{name: "chunks of nothing", many: 1, wall: 5, at: 3, cannot: true},
		{name: "chunks below 0", many: 1, need: cpu(-1), wall: 5, at: 3, cannot: true},
		{name: "chunks of what there isn't", many: 1, need: api.Res{Cpu: 1, Gpu: 1}, wall: 5, at: 3, cannot: true},
	} {
		t.Run(c.name, func(t *testing.T) {
			checkWhen(t, p, c.part, c.many, c.need, c.wall, c.at, c.want, !c.cannot)
		})
	}
}

func TestP13_2WhenTakesTheLeastOfTheTime(t *testing.T) {
	s := setUp([]api.Res{{Cpu: 6, Mem: 6}}, []int{0})
	p := must(t, s, 0, nil, nil)
	for _, c := range []struct {
		at   int
		need api.Res
	}{{2, cpu(5)}, {4, api.Res{Mem: 4}}, {6, cpu(3)}} {
		if err := p.Take(c.at, on(0, 1), c.need, 1); err != api.OK {
			t.Fatal(err)
		}
	}
	for _, c := range []struct{ wall, at, many int }{
		{2, 0, 6}, {3, 0, 1}, {4, 0, 1}, {1, 2, 1}, {1, 3, 6}, {2, 3, 2}, {4, 3, 2}, {1, 5, 6}, {2, 5, 3}, {5, 5, 3}, {9, 7, 6},
	} {
		checkWhen(t, p, 0, c.many, api.Res{Cpu: 1, Mem: 1}, c.wall, c.at, on(0, c.many), true)
		checkWhen(t, p, 0, c.many+1, api.Res{Cpu: 1, Mem: 1}, c.wall, c.at, nil, false)
	}
}

func TestP13_2NotMoreThanMaxManyOnANode(t *testing.T) {
	p := must(t, setUp([]api.Res{cpu(mostRes), cpu(mostRes)}, []int{0, 1}), 0, nil, nil)
	checkWhen(t, p, 0, mostMany+1, cpu(1), 5, 0, on(0, mostMany, 1, 1), true)
	checkWhen(t, p, 0, 2*mostMany, cpu(1), 5, 0, on(0, mostMany, 1, mostMany), true)
	checkWhen(t, p, 0, 2*mostMany+1, cpu(1), 5, 0, nil, false)
	checkEarliest(t, p, 0, 2*mostMany+1, cpu(1), 5, -1)
}

func TestP13_2EarliestCases(t *testing.T) {
	p := busy(t)
	for _, c := range []struct {
		name       string
		part, many int
		need       api.Res
		wall, at   int
		want       []int
	}{
		{"at once", 0, 1, cpu(4), 5, 3, []int{1, 1}},
		{"all that is free at once", 0, 4, cpu(1), 9, 3, []int{1, 4}},
		{"when something ends", 0, 5, cpu(1), 2, 10, []int{0, 4, 1, 1}},
		{"too long to be ahead of what is booked", 0, 5, cpu(1), 3, 16, []int{1, 5}},
		{"on the second node", 0, 8, cpu(1), 5, 16, []int{1, 8}},
		{"all that is ever free, behind what is booked", 0, 12, cpu(1), 5, 20, []int{0, 4, 1, 8}},
		{"as much as is free between", 0, 8, cpu(1), 2, 10, []int{0, 4, 1, 4}},
		{"between, of the third part", 2, 1, cpu(1), 2, 10, []int{0, 1}},
		{"behind, of the third part", 2, 1, cpu(1), 3, 20, []int{0, 1}},
		{"the longest one", 2, 1, cpu(4), mostWall, 20, []int{0, 1}},
		{"more than there is", 0, 13, cpu(1), 5, -1, nil},
		{"more than a node has", 0, 1, cpu(9), 5, -1, nil},
		{"what there isn't", 0, 1, api.Res{Lic: 1}, 5, -1, nil},
		{"chunks of nothing", 0, 1, api.Res{}, 5, -1, nil},
		{"chunks below 0", 0, 1, cpu(-1), 5, -1, nil},
		{"no chunk", 0, 0, cpu(1), 5, -1, nil},
		{"fewer chunks than none", 0, -1, cpu(1), 5, -1, nil},
		{"no part", 3, 1, cpu(1), 5, -1, nil},
		{"a part below 0", -1, 1, cpu(1), 5, -1, nil},
		{"no wall", 0, 1, cpu(1), 0, -1, nil},
		{"a wall below 0", 0, 1, cpu(1), -1, -1, nil},
		{"too long a wall", 0, 1, cpu(1), mostWall + 1, -1, nil},
	} {
		t.Run(c.name, func(t *testing.T) {
			checkEarliest(t, p, c.part, c.many, c.need, c.wall, c.at, c.want...)
		})
	}
}

func TestP13_2TheChaptersExample(t *testing.T) {
	p := must(t, setUp([]api.Res{cpu(4)}, []int{0}), 0, []api.Run{run(cpu(3), 5, 0, 1)}, nil)
	checkEarliest(t, p, 0, 1, cpu(2), 9, 5, 0, 1)
	checkEarliest(t, p, 0, 1, cpu(1), 9, 0, 0, 1)
}

func TestP13_2EarliestAtTheEndOfAllTime(t *testing.T) {
	s := setUp([]api.Res{cpu(4)}, []int{0})
	for _, c := range []struct {
		now, until, at int
	}{
		{0, mostTime - 1, mostTime - 1},
		{0, mostTime, mostTime},
		{0, mostTime + 1, -1},
		{0, mostNumber, -1},
		{mostTime, mostTime + 1, -1},
	} {
		p := must(t, s, c.now, []api.Run{run(cpu(3), c.until, 0, 1)}, nil)
		for _, wall := range []int{1, mostWall} {
			want := []int{0, 1}
			if c.at < 0 {
				want = nil
			}
			checkEarliest(t, p, 0, 1, cpu(2), wall, c.at, want...)
			checkEarliest(t, p, 0, 1, cpu(1), wall, c.now, 0, 1)
		}
	}
}

func TestP13_2OfFarNumbers(t *testing.T) {
	p := busy(t)
	for _, n := range far {
		checkWhen(t, p, n, 1, cpu(1), 5, 3, nil, false)
		checkWhen(t, p, 0, n, cpu(1), 5, 3, nil, false)
		checkWhen(t, p, 0, 1, cpu(n), 5, 3, nil, false)
		checkWhen(t, p, 0, 1, cpu(1), n, 3, nil, false)
		checkWhen(t, p, 0, 1, cpu(1), 5, n, nil, false)
		checkWhen(t, p, n, n, cpu(n), n, n, nil, false)
		checkEarliest(t, p, n, 1, cpu(1), 5, -1)
		checkEarliest(t, p, 0, n, cpu(1), 5, -1)
		checkEarliest(t, p, 0, 1, cpu(n), 5, -1)
		checkEarliest(t, p, 0, 1, cpu(1), n, -1)
		checkEarliest(t, p, n, n, cpu(n), n, -1)
	}
}

func TestP13_2OfMany(t *testing.T) {
	from := rand.New(rand.NewSource(32))
	later, never, now := 0, 0, 0
	for range 1200 {
		d, m, p := fresh(t, from)
		for range 6 {
			part, many, need, wall := from.Intn(3), 1+from.Intn(5), drawNeed(from), 1+from.Intn(12)
			at := from.Intn(24)
			want, wantOk := m.wantedWhen(part, many, need, wall, at)
			checkWhen(t, p, part, many, need, wall, at, want, wantOk)
			plan, ok := m.wantedEarliest(part, many, need, wall)
			got, gotOk := p.Earliest(part, many, need, wall)
			if ok != gotOk || !reflect.DeepEqual(got, plan) {
				t.Fatalf("of %+v: Earliest(%d, %d, %v, %d) = %v, %v; want %v, %v", d, part, many, need, wall, got, gotOk, plan, ok)
			}
			switch {
			case !ok:
				never++
			case plan.At > d.now:
				later++
			default:
				now++
			}
		}
		checkFree(t, p, m)
	}
	if later < 300 || never < 300 || now < 300 {
		t.Errorf("%d were later, %d never, %d at once", later, never, now)
	}
}

func TestP13_2AnswersAreNewMemory(t *testing.T) {
	p := busy(t)
	l, _ := p.When(0, 5, cpu(1), 2, 10)
	clear(l)
	plan, _ := p.Earliest(0, 5, cpu(1), 2)
	clear(plan.Shares)
	clear(p.Free(3))
	checkWhen(t, p, 0, 5, cpu(1), 2, 10, on(0, 4, 1, 1), true)
	checkEarliest(t, p, 0, 5, cpu(1), 2, 10, 0, 4, 1, 1)
	if got := p.Free(3); !slices.Equal(got, []api.Res{cpu(0), cpu(4)}) {
		t.Errorf("Free(3) = %v", got)
	}
}

func TestP13_3TakeCases(t *testing.T) {
	for _, c := range []struct {
		name string
		at   int
		l    []api.Share
		need api.Res
		wall int
		err  api.Errno
	}{
		{"at once", 3, on(1, 2), cpu(2), 4, api.OK},
		{"of both, between", 10, on(0, 4, 1, 4), cpu(1), 2, api.OK},
		{"behind all", 20, on(0, 1, 1, 2), cpu(4), mostWall, api.OK},
		{"at the end of all time", mostTime, on(0, 1, 1, 2), cpu(4), mostWall, api.OK},
		{"no shares", 3, nil, cpu(9), 4, api.OK},
		{"an empty list of shares", 3, []api.Share{}, cpu(mostRes), 4, api.OK},
		{"nothing, of what is booked", 12, on(0, mostMany), api.Res{}, 4, api.OK},
		{"ahead of now", 2, on(1, 2), cpu(2), 4, api.ErrArg},
		{"behind all time", mostTime + 1, on(1, 2), cpu(2), 4, api.ErrArg},
		{"no wall", 3, on(1, 2), cpu(2), 0, api.ErrArg},
		{"no wall, of no shares", 3, nil, cpu(2), 0, api.ErrArg},
		{"ahead of now, of no shares", 2, nil, cpu(2), 4, api.ErrArg},
		{"behind all time, of no shares", mostTime + 1, nil, cpu(2), 4, api.ErrArg},
		{"too long a wall, of no shares", 3, nil, cpu(2), mostWall + 1, api.ErrArg},
		{"a wall below 0", 3, on(1, 2), cpu(2), -1, api.ErrArg},
		{"too long a wall", 20, on(1, 2), cpu(2), mostWall + 1, api.ErrArg},
		{"a Need below 0", 3, on(1, 2), cpu(-2), 4, api.ErrArg},
		{"a Need too great", 3, on(1, 2), cpu(mostRes + 1), 4, api.ErrArg},
		{"a Need too great, of no shares", 3, nil, cpu(mostRes + 1), 4, api.ErrArg},
		{"a node that there isn't", 3, on(1, 1, 2, 1), cpu(1), 4, api.ErrArg},
		{"a node below 0", 3, on(-1, 1), cpu(1), 4, api.ErrArg},
		{"a share of none", 3, on(1, 0), cpu(1), 4, api.ErrArg},
		{"a share of too many", 20, on(1, mostMany+1), api.Res{}, 4, api.ErrArg},
		{"shares that fall", 20, on(1, 1, 0, 1), cpu(1), 4, api.ErrArg},
		{"a share twice", 20, on(1, 1, 1, 1), cpu(1), 4, api.ErrArg},
		{"too much, too long", 3, on(1, 9), cpu(1), mostWall + 1, api.ErrArg},
		{"too much on the first node, then what isn't right", 3, on(0, 9, 1, 0), cpu(1), 4, api.ErrArg},
		{"too much", 3, on(1, 5), cpu(1), 4, api.ErrOver},
		{"too much by its times for a number", 3, on(1, mostMany), cpu(mostRes), 4, api.ErrOver},
		{"too much on the second node only", 20, on(0, 1, 1, 9), cpu(1), 4, api.ErrOver},
		{"too much in its first tick", 9, on(0, 1), cpu(1), 3, api.ErrOver},
		{"too much in its last tick", 10, on(0, 1), cpu(1), 3, api.ErrOver},
		{"what is booked", 13, on(0, 1), cpu(1), 2, api.ErrOver},
		{"what there isn't", 20, on(0, 1), api.Res{Mem: 1}, 2, api.ErrOver},
	} {
		t.Run(c.name, func(t *testing.T) {
			p, was, l := busy(t), busy(t), slices.Clone(c.l)
			err := p.Take(c.at, c.l, c.need, c.wall)
			if err != c.err || !slices.Equal(l, c.l) {
				t.Fatalf("Take(%d, %v, %v, %d) = %d, want %d", c.at, l, c.need, c.wall, err, c.err)
			}
			for _, at := range []int{3, 4, 9, 10, 11, 12, 15, 16, 19, 20, 30, c.at - 1, c.at, c.at + c.wall - 1, c.at + c.wall, mostTime, mostTime + mostWall} {
				want := was.Free(at)
				if err == api.OK && c.at <= at && at < c.at+c.wall {
					for _, s := range c.l {
						want[s.Node].Cpu -= c.need.Cpu * s.Many
					}
				}
				if got := p.Free(at); !slices.Equal(got, want) {
					t.Errorf("Free(%d) = %v, want %v", at, got, want)
				}
			}
		})
	}
}

func TestP13_3TakeOfFarNumbers(t *testing.T) {
	p := busy(t)
	for _, n := range far {
		for i, err := range []api.Errno{
			p.Take(n, on(1, 1), cpu(1), 4),
			p.Take(3, on(n, 1), cpu(1), 4),
			p.Take(3, on(1, n), cpu(1), 4),
			p.Take(3, on(1, 1), cpu(n), 4),
			p.Take(3, on(1, 1), cpu(1), n),
			p.Take(n, on(n, n), cpu(n), n),
		} {
			if err != api.ErrArg {
				t.Errorf("with %d, in place %d: error %d", n, i, err)
			}
		}
	}
	for at := 3; at < 24; at++ {
		if !slices.Equal(p.Free(at), busy(t).Free(at)) {
			t.Errorf("Free(%d) = %v", at, p.Free(at))
		}
	}
}

func TestP13_3CloneChangesByItself(t *testing.T) {
	p := busy(t)
	q := p.Clone()
	if q == p || q.Now() != 3 {
		t.Fatalf("Clone() = %p of %p, from %d on", q, p, q.Now())
	}
	if err := p.Take(3, on(1, 3), cpu(1), 7); err != api.OK {
		t.Fatal(err)
	}
	r := p.Clone()
	if err := q.Take(5, on(1, 2), cpu(2), 4); err != api.OK {
		t.Fatal(err)
	}
	for _, c := range []struct {
		name string
		p    *Profile
		want [3]int // what is free of node 1 at 3, 5 and 9
	}{{"the first one", p, [3]int{1, 1, 1}}, {"its clone", q, [3]int{4, 0, 4}}, {"its later clone", r, [3]int{1, 1, 1}}} {
		for i, at := range []int{3, 5, 9} {
			if got := c.p.Free(at)[1].Cpu; got != c.want[i] {
				t.Errorf("%s: at %d %d are free, want %d", c.name, at, got, c.want[i])
			}
		}
		for part := range 4 {
			_, ok := c.p.When(part, 1, cpu(1), 1, 20)
			if ok != (part < 3) {
				t.Errorf("%s: part %d: %v", c.name, part, ok)
			}
		}
	}
}

func TestP13_3TakeOfMany(t *testing.T) {
	from := rand.New(rand.NewSource(33))
	told := map[api.Errno]int{}
	for range 500 {
		_, m, p := fresh(t, from)
		for range 8 {
			at, l, need, wall := from.Intn(20), drawShares(from, len(m.s.Nodes), 3), drawNeed(from), 1+from.Intn(10)
			old, clone := &model{m.s, m.now, m.books, slices.Clone(m.pieces)}, p.Clone()
			want := api.OK
			switch {
			case at < m.now:
				want = api.ErrArg
			case !m.take(at, l, need, wall):
				want = api.ErrOver
			}
			if err := p.Take(at, l, need, wall); err != want {
				t.Fatalf("of %+v: Take(%d, %v, %v, %d) = %d, want %d", old, at, l, need, wall, err, want)
			}
			told[want]++
			checkFree(t, p, m)
			checkFree(t, clone, old)
		}
	}
	for _, err := range []api.Errno{api.OK, api.ErrArg, api.ErrOver} {
		if told[err] < 200 {
			t.Errorf("error %d was asked for %d times", err, told[err])
		}
	}
}

func TestP13_3ProfileThatIsNone(t *testing.T) {
	var p *Profile
	if p.Now() != 0 || p.Free(0) != nil || p.Clone() != nil {
		t.Error("a profile that is none tells something")
	}
	checkWhen(t, p, 0, 1, cpu(1), 1, 0, nil, false)
	checkEarliest(t, p, 0, 1, cpu(1), 1, -1)
	for _, at := range []int{0, -1, mostTime + 1} {
		if err := p.Take(at, on(0, 1), cpu(1), 1); err != api.ErrNil {
			t.Errorf("Take at %d: error %d", at, err)
		}
	}
}

// planned is something that was planned, and taken.
type planned struct {
	part, many int
	need       api.Res
	wall       int
	plan       api.Plan
}

func TestP13_4EachWouldBePlannedJustSo(t *testing.T) {
	from := rand.New(rand.NewSource(34))
	late := 0
	for range 400 {
		d, _, p := fresh(t, from)
		var l []planned
		for range 1 + from.Intn(8) {
			a := planned{part: from.Intn(2), many: 1 + from.Intn(4), need: drawNeed(from), wall: 1 + from.Intn(12)}
			plan, ok := p.Earliest(a.part, a.many, a.need, a.wall)
			if !ok {
				continue
			}
			if err := p.Take(plan.At, plan.Shares, a.need, a.wall); err != api.OK {
				t.Fatalf("what was planned, %v, can't be taken: error %d", plan, err)
			}
			a.plan = plan
			l = append(l, a)
		}
		for i, a := range l {
			others := must(t, d.s, d.now, d.runs, d.books)
			for _, b := range slices.Backward(slices.Delete(slices.Clone(l), i, i+1)) {
				if err := others.Take(b.plan.At, b.plan.Shares, b.need, b.wall); err != api.OK {
					t.Fatal(err)
				}
			}
			again, ok := others.Earliest(a.part, a.many, a.need, a.wall)
			if !ok || !reflect.DeepEqual(again, a.plan) {
				t.Fatalf("of %+v: %+v is planned as %v, %v, when all others were taken", d, a, again, ok)
			}
			if a.plan.At > d.now {
				late++
			}
		}
	}
	if late < 300 {
		t.Errorf("only %d were planned for later", late)
	}
}

func TestP13_4FewerRunsOrBookingsDelayNothing(t *testing.T) {
	from := rand.New(rand.NewSource(35))
	earlier := 0
	for range 500 {
		d, _, p := fresh(t, from)
		var fewer []*Profile
		for i := range d.runs {
			fewer = append(fewer, must(t, d.s, d.now, slices.Delete(slices.Clone(d.runs), i, i+1), d.books))
		}
		for i := range d.books {
			fewer = append(fewer, must(t, d.s, d.now, d.runs, slices.Delete(slices.Clone(d.books), i, i+1)))
		}
		for range 6 {
			part, many, need, wall := from.Intn(2), 1+from.Intn(4), drawNeed(from), 1+from.Intn(12)
			plan, ok := p.Earliest(part, many, need, wall)
			for _, q := range fewer {
				other, can := q.Earliest(part, many, need, wall)
				if ok && (!can || other.At > plan.At) {
					t.Fatalf("of %+v: %d chunks of %v for %d: %v, with one fewer %v, %v", d, many, need, wall, plan, other, can)
				}
				if ok && other.At < plan.At {
					earlier++
				}
				for at := d.now; at < d.now+20; at++ {
					_, could := p.When(part, many, need, wall, at)
					if _, can := q.When(part, many, need, wall, at); could && !can {
						t.Fatalf("of %+v: %d chunks of %v for %d can't be placed at %d any more", d, many, need, wall, at)
					}
				}
			}
		}
	}
	if earlier < 100 {
		t.Errorf("only %d were earlier", earlier)
	}
}
