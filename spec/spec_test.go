package spec

import (
	"math"
	"math/rand"
	"reflect"
	"slices"
	"testing"

	"drayage/api"
	"drayage/vec"
)

// far are numbers that nothing in a set-up may be.
var far = []int{math.MinInt, math.MinInt + 1, -1 << 32, -1, 1 << 32, 1<<32 + 1, math.MaxInt - 1, math.MaxInt}

// spots are a set-up's numbers, each with the word of its flaw, and what it may be.
var spots = []struct {
	name, word string
	low, high  int
	at         func(s *api.Spec) *int
}{
	{"first node's Cpu", "Nodes", 0, 1048576, func(s *api.Spec) *int { return &s.Nodes[0].Cpu }},
	{"first node's Mem", "Nodes", 0, 1048576, func(s *api.Spec) *int { return &s.Nodes[0].Mem }},
	{"last node's Gpu", "Nodes", 0, 1048576, func(s *api.Spec) *int { return &s.Nodes[1].Gpu }},
	{"last node's Lic", "Nodes", 0, 1048576, func(s *api.Spec) *int { return &s.Nodes[1].Lic }},
	{"first part's last node", "Parts", 1, 1, func(s *api.Spec) *int { return &s.Parts[0][1] }},
	{"first part's first node", "Parts", 0, 0, func(s *api.Spec) *int { return &s.Parts[0][0] }},
	{"last part's node", "Parts", 0, 1, func(s *api.Spec) *int { return &s.Parts[1][0] }},
	{"Users", "Users", 1, 8, func(s *api.Spec) *int { s.Queues[1].Users = nil; return &s.Users }},
	{"first queue's Part", "Queues", 0, 1, func(s *api.Spec) *int { return &s.Queues[0].Part }},
	{"last queue's Part", "Queues", 0, 1, func(s *api.Spec) *int { return &s.Queues[1].Part }},
	{"last queue's first user", "Queues", 0, 0, func(s *api.Spec) *int { return &s.Queues[1].Users[0] }},
	{"last queue's last user", "Queues", 1, 2, func(s *api.Spec) *int { return &s.Queues[1].Users[1] }},
	{"first queue's MaxJobs", "Queues", 1, 256, func(s *api.Spec) *int { return &s.Queues[0].MaxJobs }},
	{"first queue's MaxRun", "Queues", 1, 256, func(s *api.Spec) *int { return &s.Queues[0].MaxRun }},
	{"first queue's MaxUser", "Queues", 1, 256, func(s *api.Spec) *int { return &s.Queues[0].MaxUser }},
	{"first queue's Qos", "Queues", 0, 100, func(s *api.Spec) *int { return &s.Queues[0].Qos }},
	{"last queue's MaxJobs", "Queues", 1, 256, func(s *api.Spec) *int { return &s.Queues[1].MaxJobs }},
	{"last queue's MaxRun", "Queues", 1, 256, func(s *api.Spec) *int { return &s.Queues[1].MaxRun }},
	{"last queue's MaxUser", "Queues", 1, 256, func(s *api.Spec) *int { return &s.Queues[1].MaxUser }},
	{"last queue's Qos", "Queues", 0, 100, func(s *api.Spec) *int { return &s.Queues[1].Qos }},
	{"Age", "Weights", 0, 1000, func(s *api.Spec) *int { return &s.Weights.Age }},
	{"Size", "Weights", 0, 1000, func(s *api.Spec) *int { return &s.Weights.Size }},
	{"Qos", "Weights", 0, 1000, func(s *api.Spec) *int { return &s.Weights.Qos }},
	{"Share", "Weights", 0, 1000, func(s *api.Spec) *int { return &s.Weights.Share }},
	{"Decay", "Decay", 1, 16, func(s *api.Spec) *int { return &s.Decay }},
	{"Mode", "Mode", 1, 2, func(s *api.Spec) *int { return &s.Mode }},
	{"Jobs", "Jobs", 1, 256, func(s *api.Spec) *int { return &s.Jobs }},
	{"Ids", "Ids", 1, 1048576, func(s *api.Spec) *int { return &s.Ids }},
	{"Versions", "Versions", 1, 65536, func(s *api.Spec) *int { return &s.Versions }},
	{"Linger", "Linger", 0, 65536, func(s *api.Spec) *int { return &s.Linger }},
	{"Keep", "Keep", 1, 16, func(s *api.Spec) *int { return &s.Keep }},
	{"In", "In", 1, 8, func(s *api.Spec) *int { return &s.In }},
	{"Out", "Out", 1, 16, func(s *api.Spec) *int { return &s.Out }},
	{"Cache", "Cache", 0, 16, func(s *api.Spec) *int { return &s.Cache }},
}

// turned are set-ups made of Small, each with the word of what is wrong with it, if anything is.
var turned = []struct {
	name, word string
	turn       func(s *api.Spec)
}{
	{"nothing", "", func(s *api.Spec) {}},
	{"no nodes", "Nodes", func(s *api.Spec) { s.Nodes = nil }},
	{"an empty list of nodes", "Nodes", func(s *api.Spec) { s.Nodes = []api.Res{} }},
	{"no nodes and no parts", "Nodes", func(s *api.Spec) { s.Nodes, s.Parts = nil, nil }},
	{"one node", "", func(s *api.Spec) { s.Nodes, s.Parts = s.Nodes[:1], [][]int{{0}, {0}} }},
	{"one node less than a part names", "Parts", func(s *api.Spec) { s.Nodes = s.Nodes[:1] }},
	{"16 nodes", "", func(s *api.Spec) { s.Nodes = make([]api.Res, 16) }},
	{"17 nodes", "Nodes", func(s *api.Spec) { s.Nodes = make([]api.Res, 17) }},
	{"1000 nodes", "Nodes", func(s *api.Spec) { s.Nodes = make([]api.Res, 1000) }},
	{"the 16th node below 0", "Nodes", func(s *api.Spec) { s.Nodes = make([]api.Res, 16); s.Nodes[15].Lic = -1 }},
	{"nodes that have nothing", "", func(s *api.Spec) { s.Nodes = make([]api.Res, 2) }},
	{"no parts", "Parts", func(s *api.Spec) { s.Parts = nil }},
	{"an empty list of parts", "Parts", func(s *api.Spec) { s.Parts = [][]int{} }},
	{"one part for two queues", "Queues", func(s *api.Spec) { s.Parts = s.Parts[:1] }},
	{"8 parts", "", func(s *api.Spec) { s.Parts = slices.Repeat([][]int{{0, 1}}, 8) }},
	{"9 parts", "Parts", func(s *api.Spec) { s.Parts = slices.Repeat([][]int{{0, 1}}, 9) }},
	{"a part without nodes", "Parts", func(s *api.Spec) { s.Parts[1] = nil }},
	{"a part with an empty list", "Parts", func(s *api.Spec) { s.Parts[0] = []int{} }},
	{"a node twice in a part", "Parts", func(s *api.Spec) { s.Parts[0] = []int{0, 0} }},
	{"the last node twice in a part", "Parts", func(s *api.Spec) { s.Parts[0] = []int{0, 1, 1} }},
	{"a part that falls", "Parts", func(s *api.Spec) { s.Parts[0] = []int{1, 0} }},
	{"a part that rises and falls", "Parts", func(s *api.Spec) { s.Nodes = make([]api.Res, 3); s.Parts[1] = []int{0, 2, 1} }},
	{"a part of all 16 nodes", "", func(s *api.Spec) {
		s.Nodes, s.Parts[1] = make([]api.Res, 16), []int{0, 1, 2, 3, 4, 5, 6, 7, 8, 9, 10, 11, 12, 13, 14, 15}
	}},
	{"a part of nodes with gaps", "", func(s *api.Spec) { s.Nodes, s.Parts[1] = make([]api.Res, 16), []int{2, 5, 15} }},
	{"a 16th node that there isn't", "Parts", func(s *api.Spec) { s.Nodes, s.Parts[1] = make([]api.Res, 15), []int{2, 5, 15} }},
	{"one user, where a queue names two", "Queues", func(s *api.Spec) { s.Users = 1 }},
	{"two users, and a queue names both", "", func(s *api.Spec) { s.Users = 2 }},
	{"no queues", "Queues", func(s *api.Spec) { s.Queues = nil }},
	{"an empty list of queues", "Queues", func(s *api.Spec) { s.Queues = []api.Queue{} }},
	{"one queue", "", func(s *api.Spec) { s.Queues = s.Queues[:1] }},
	{"8 queues", "", func(s *api.Spec) { s.Queues = slices.Repeat(s.Queues, 4) }},
	{"9 queues", "Queues", func(s *api.Spec) { s.Queues = slices.Repeat(s.Queues[:1], 9) }},
	{"the 8th queue's Qos below 0", "Queues", func(s *api.Spec) { s.Queues = slices.Repeat(s.Queues, 4); s.Queues[7].Qos = -1 }},
	{"a queue that is nothing", "Queues", func(s *api.Spec) { s.Queues[1] = api.Queue{} }},
	{"a queue of an empty list of users", "", func(s *api.Spec) { s.Queues[1].Users = []int{} }},
	{"a queue of all users", "", func(s *api.Spec) { s.Queues[1].Users = []int{0, 1, 2} }},
	{"a queue of 8 users", "", func(s *api.Spec) { s.Users, s.Queues[1].Users = 8, []int{0, 1, 2, 3, 4, 5, 6, 7} }},
	{"a queue of users, one of whom there isn't", "Queues", func(s *api.Spec) { s.Queues[1].Users = []int{0, 1, 2, 3} }},
	{"a user twice in a queue", "Queues", func(s *api.Spec) { s.Queues[1].Users = []int{1, 1} }},
	{"users that fall", "Queues", func(s *api.Spec) { s.Queues[1].Users = []int{1, 0} }},
	{"users that rise and fall", "Queues", func(s *api.Spec) { s.Queues[0].Users = []int{0, 2, 1} }},
	{"a user of a queue below 0", "Queues", func(s *api.Spec) { s.Queues[0].Users = []int{-1, 0} }},
	{"weights of 0", "", func(s *api.Spec) { s.Weights = api.Weights{} }},
	{"a queue with more jobs than there may be", "", func(s *api.Spec) { s.Jobs, s.Queues[0].MaxJobs = 1, 256 }},
	{"more that run than wait", "", func(s *api.Spec) { s.Queues[0].MaxJobs, s.Queues[0].MaxRun, s.Queues[0].MaxUser = 1, 2, 3 }},
	{"a conservative mode", "", func(s *api.Spec) { s.Mode = api.Conservative }},
	{"no mode", "Mode", func(s *api.Spec) { s.Mode = 0 }},
	{"nothing at all", "Nodes", func(s *api.Spec) { *s = api.Spec{} }},
}

// clone is a set-up that shares nothing with s; lists without an element are nil.
func clone(s api.Spec) api.Spec {
	s.Nodes = append([]api.Res(nil), s.Nodes...)
	s.Parts = append([][]int(nil), s.Parts...)
	for i := range s.Parts {
		s.Parts[i] = append([]int(nil), s.Parts[i]...)
	}
	s.Queues = append([]api.Queue(nil), s.Queues...)
	for i := range s.Queues {
		s.Queues[i].Users = append([]int(nil), s.Queues[i].Users...)
	}
	return s
}

func same(a, b api.Spec) bool { return reflect.DeepEqual(clone(a), clone(b)) }

// small is what the chapter says of Small, written by hand.
func small() api.Spec {
	return api.Spec{
		Nodes:   []api.Res{{Cpu: 4, Mem: 8, Gpu: 0, Lic: 1}, {Cpu: 8, Mem: 8, Gpu: 1, Lic: 0}},
		Parts:   [][]int{{0, 1}, {1}},
		Queues:  []api.Queue{{Part: 0, MaxJobs: 8, MaxRun: 4, MaxUser: 3, Qos: 1}, {Part: 1, Users: []int{0, 1}, MaxJobs: 4, MaxRun: 2, MaxUser: 2, Qos: 5}},
		Users:   3,
		Weights: api.Weights{Age: 1, Size: 2, Qos: 10, Share: 3},
		Decay:   4, Mode: 1, Jobs: 12, Ids: 100, Versions: 50, Linger: 5, Keep: 4, In: 3, Out: 6, Cache: 4,
	}
}

// largest is the right set-up with the longest text.
func largest() api.Spec {
	nodes, users := []int{0, 1, 2, 3, 4, 5, 6, 7, 8, 9, 10, 11, 12, 13, 14, 15}, []int{0, 1, 2, 3, 4, 5, 6, 7}
	s := api.Spec{
		Nodes:   slices.Repeat([]api.Res{{Cpu: api.MaxRes, Mem: api.MaxRes, Gpu: api.MaxRes, Lic: api.MaxRes}}, 16),
		Users:   8,
		Weights: api.Weights{Age: 1000, Size: 1000, Qos: 1000, Share: 1000},
		Decay:   16, Mode: api.Conservative, Jobs: 256, Ids: 1 << 20, Versions: 1 << 16, Linger: 1 << 16, Keep: 16, In: 8, Out: 16, Cache: 16,
	}
	for range 8 {
		s.Parts = append(s.Parts, slices.Clone(nodes))
		s.Queues = append(s.Queues, api.Queue{Part: 7, Users: slices.Clone(users), MaxJobs: 256, MaxRun: 256, MaxUser: 256, Qos: 100})
	}
	return s
}

// least is a right set-up of as little as there may be.
func least() api.Spec {
	return api.Spec{
		Nodes: make([]api.Res, 1), Parts: [][]int{{0}}, Queues: []api.Queue{{MaxJobs: 1, MaxRun: 1, MaxUser: 1}},
		Users: 1, Decay: 1, Mode: 1, Jobs: 1, Ids: 1, Versions: 1, Keep: 1, In: 1, Out: 1,
	}
}

// some are so many of the numbers from 0 on, below end, rising, drawn.
func some(r *rand.Rand, end, many int) []int {
	l := r.Perm(end)[:many]
	slices.Sort(l)
	return l
}

// drawn is a right set-up, drawn.
func drawn(r *rand.Rand) api.Spec {
	from := func(low, high int) int { return low + r.Intn(min(high-low+1, 1<<(1+r.Intn(21)))) }
	s := api.Spec{
		Users:   from(1, 8),
		Weights: api.Weights{Age: from(0, 1000), Size: from(0, 1000), Qos: from(0, 1000), Share: from(0, 1000)},
		Decay:   from(1, 16), Mode: from(1, 2), Jobs: from(1, 256), Ids: from(1, 1<<20), Versions: from(1, 1<<16),
		Linger: from(0, 1<<16), Keep: from(1, 16), In: from(1, 8), Out: from(1, 16), Cache: from(0, 16),
	}
	for range from(1, 16) {
		s.Nodes = append(s.Nodes, api.Res{Cpu: from(0, api.MaxRes), Mem: from(0, api.MaxRes), Gpu: from(0, 1), Lic: from(0, api.MaxRes)})
	}
	for range from(1, 8) {
		s.Parts = append(s.Parts, some(r, len(s.Nodes), from(1, len(s.Nodes))))
	}
	for range from(1, 8) {
		s.Queues = append(s.Queues, api.Queue{
			Part: r.Intn(len(s.Parts)), Users: some(r, s.Users, from(0, s.Users)),
			MaxJobs: from(1, 256), MaxRun: from(1, 256), MaxUser: from(1, 256), Qos: from(0, 100),
		})
	}
	return s
}

func checkFlaw(t *testing.T, name string, s api.Spec, want string) {
	t.Helper()
	before := clone(s)
	if got := Flaw(s); got != want {
		t.Errorf("%s: Flaw = %q, want %q", name, got, want)
	}
	if got := Right(s); got != (want == "") {
		t.Errorf("%s: Right = %t", name, got)
	}
	if !same(s, before) {
		t.Errorf("%s: the set-up was changed", name)
	}
}

func TestP7_1FlawAtEachNumber(t *testing.T) {
	for _, c := range spots {
		for _, n := range append([]int{c.low, c.high, c.low + 1, c.high - 1, c.low - 1, c.high + 1, 0, 1, 2, 3}, far...) {
			s, want := small(), ""
			if *c.at(&s) = n; n < c.low || n > c.high {
				want = c.word
			}
			checkFlaw(t, c.name, s, want)
		}
	}
}

func TestP7_1FlawCases(t *testing.T) {
	for _, c := range turned {
		s := small()
		c.turn(&s)
		checkFlaw(t, c.name, s, c.word)
	}
	checkFlaw(t, "the largest", largest(), "")
	checkFlaw(t, "the least", least(), "")
}

// breakers make what a word tells wrong, and nothing of what is told ahead of it.
var breakers = []struct {
	word string
	turn func(s *api.Spec)
}{
	{"Nodes", func(s *api.Spec) { s.Nodes = nil }},
	{"Parts", func(s *api.Spec) { s.Parts = nil }},
	{"Users", func(s *api.Spec) { s.Users = 0 }},
	{"Queues", func(s *api.Spec) { s.Queues = nil }},
	{"Weights", func(s *api.Spec) { s.Weights.Share = -1 }},
	{"Decay", func(s *api.Spec) { s.Decay = 0 }},
	{"Mode", func(s *api.Spec) { s.Mode = 3 }},
	{"Jobs", func(s *api.Spec) { s.Jobs = 257 }},
	{"Ids", func(s *api.Spec) { s.Ids = 0 }},
	{"Versions", func(s *api.Spec) { s.Versions = 0 }},
	{"Linger", func(s *api.Spec) { s.Linger = -1 }},
	{"Keep", func(s *api.Spec) { s.Keep = 17 }},
	{"In", func(s *api.Spec) { s.In = 9 }},
	{"Out", func(s *api.Spec) { s.Out = 17 }},
	{"Cache", func(s *api.Spec) { s.Cache = -1 }},
}

func TestP7_1FlawTellsTheFirst(t *testing.T) {
	all := small() // broken more and more, from the last word on
	for i, first := range slices.Backward(breakers) {
		s := small()
		first.turn(&s)
		checkFlaw(t, first.word, s, first.word)
		for _, second := range breakers[i+1:] {
			s := small()
			first.turn(&s)
			second.turn(&s)
			checkFlaw(t, first.word+" ahead of "+second.word, s, first.word)
		}
		first.turn(&all)
		checkFlaw(t, first.word+" and all behind it", all, first.word)
	}
}

func TestP7_1RightOnes(t *testing.T) {
	r := rand.New(rand.NewSource(7))
	for range 2000 {
		checkFlaw(t, "drawn", drawn(r), "")
	}
}

// wrongOnes are set-ups that aren't right, each for one reason.
func wrongOnes() []api.Spec {
	var l []api.Spec
	for _, c := range turned {
		if c.word != "" {
			s := small()
			c.turn(&s)
			l = append(l, s)
		}
	}
	for _, c := range spots {
		s := small()
		*c.at(&s) = c.high + 1
		l = append(l, s)
	}
	return l
}

func TestP7_2AllowedCases(t *testing.T) {
	s := small()
	for _, c := range []struct {
		queue, user int
		want        bool
	}{
		{0, 0, true}, {0, 1, true}, {0, 2, true}, {0, 3, false}, {0, -1, false}, {0, math.MinInt, false}, {0, math.MaxInt, false},
		{1, 0, true}, {1, 1, true}, {1, 2, false}, {1, 3, false}, {1, -1, false}, {1, math.MinInt, false}, {1, math.MaxInt, false},
		{2, 0, false}, {-1, 0, false}, {-2, 1, false}, {math.MinInt, 0, false}, {math.MaxInt, 0, false}, {1 << 32, 0, false}, {0, 1 << 32, false},
	} {
		if got := Allowed(s, c.queue, c.user); got != c.want {
			t.Errorf("Allowed(small, %d, %d) = %t", c.queue, c.user, got)
		}
	}
	s.Queues[1].Users = []int{2}
	if Allowed(s, 1, 0) || Allowed(s, 1, 1) || !Allowed(s, 1, 2) {
		t.Error("a queue of user 2 alone: not even the operator may use it beside that one")
	}
	s.Queues[1].Users = []int{}
	if !Allowed(s, 1, 0) || !Allowed(s, 1, 2) || Allowed(s, 1, 3) {
		t.Error("a queue of no users is one of all that there are")
	}
}

func TestP7_2AllowedOfDrawnOnes(t *testing.T) {
	r := rand.New(rand.NewSource(72))
	for range 500 {
		s := drawn(r)
		for queue := -1; queue <= 9; queue++ {
			for user := -1; user <= 9; user++ {
				want := false
				if queue >= 0 && queue < len(s.Queues) && user >= 0 && user < s.Users {
					l := s.Queues[queue].Users
					_, found := slices.BinarySearch(l, user)
					want = found || len(l) == 0
				}
				if got := Allowed(s, queue, user); got != want {
					t.Fatalf("Allowed(%v, %d, %d) = %t", s, queue, user, got)
				}
			}
		}
	}
}

func TestP7_2RoomCases(t *testing.T) {
	s := small()
	wide := small()
	wide.Nodes[0], wide.Nodes[1] = api.Res{Cpu: api.MaxRes}, api.Res{Cpu: 63}
	for _, c := range []struct {
		s    api.Spec
		part int
		need api.Res
		want int
	}{
		{s, 0, api.Res{Cpu: 2, Mem: 2}, 6}, {s, 1, api.Res{Cpu: 2, Mem: 2}, 4}, {s, 0, api.Res{Cpu: 4}, 3}, {s, 1, api.Res{Cpu: 4}, 2},
		{s, 0, api.Res{Cpu: 5}, 1}, {s, 0, api.Res{Cpu: 8}, 1}, {s, 0, api.Res{Cpu: 9}, 0}, // not a chunk on two nodes
		{s, 0, api.Res{Gpu: 1}, 1}, {s, 1, api.Res{Gpu: 1}, 1}, {s, 0, api.Res{Lic: 1}, 1}, {s, 1, api.Res{Lic: 1}, 0}, {s, 0, api.Res{Gpu: 1, Lic: 1}, 0},
		{s, 0, api.Res{}, 0}, {s, 0, api.Res{Cpu: -1}, 0}, {s, 0, api.Res{Cpu: 1, Mem: -1}, 0}, {s, 0, api.Res{Cpu: 1, Lic: api.MaxRes + 1}, 0}, {s, 0, api.Res{Cpu: math.MinInt}, 0}, {s, 0, api.Res{Cpu: math.MaxInt}, 0},
		{s, 2, api.Res{Cpu: 1}, 0}, {s, -1, api.Res{Cpu: 1}, 0}, {s, math.MinInt, api.Res{Cpu: 1}, 0}, {s, math.MaxInt, api.Res{Cpu: 1}, 0}, {s, 1 << 32, api.Res{Cpu: 1}, 0},
		{wide, 0, api.Res{Cpu: 1}, 127}, {wide, 1, api.Res{Cpu: 1}, 63}, // of one node MaxMany at most, of all together more
		{largest(), 7, api.Res{Cpu: 1, Mem: 1, Gpu: 1, Lic: 1}, 1024}, {largest(), 0, api.Res{Cpu: api.MaxRes, Lic: api.MaxRes}, 16}, {largest(), 8, api.Res{Cpu: 1}, 0},
		{least(), 0, api.Res{Cpu: 1}, 0},
	} {
		if got := Room(c.s, c.part, c.need); got != c.want {
			t.Errorf("Room(%v, %d, %v) = %d, want %d", c.s, c.part, c.need, got, c.want)
		}
	}
}

func TestP7_2FitsCases(t *testing.T) {
	s := small()
	cpu := func(n int) api.Res { return api.Res{Cpu: n} }
	for _, c := range []struct {
		queue, many int
		need        api.Res
		want        bool
	}{
		{1, 2, cpu(4), true}, {1, 3, cpu(4), false}, // the chapter's example
		{1, 1, cpu(4), true}, {0, 3, cpu(4), true}, {0, 4, cpu(4), false}, {0, 12, cpu(1), true}, {0, 13, cpu(1), false},
		{0, 0, cpu(1), false}, {0, -1, cpu(1), false}, {0, math.MinInt, cpu(1), false}, {0, math.MaxInt, cpu(1), false}, {0, 1<<32 + 1, cpu(1), false},
		{2, 1, cpu(1), false}, {-1, 1, cpu(1), false}, {math.MinInt, 1, cpu(1), false}, {math.MaxInt, 1, cpu(1), false}, {1 << 32, 1, cpu(1), false},
		{0, 1, api.Res{}, false}, {0, 0, api.Res{}, false}, {0, 1, cpu(-1), false}, {0, 1, cpu(api.MaxRes + 1), false}, {0, 1, cpu(9), false},
	} {
		if got := Fits(s, c.queue, c.many, c.need); got != c.want {
			t.Errorf("Fits(small, %d, %d, %v) = %t", c.queue, c.many, c.need, got)
		}
	}
	s.Queues[0].Part, s.Queues[1].Part = 1, 0 // the queue's part, not the part of the queue's number
	if Fits(s, 0, 3, cpu(4)) || !Fits(s, 0, 2, cpu(4)) || !Fits(s, 1, 3, cpu(4)) || Fits(s, 1, 4, cpu(4)) {
		t.Error("queues that have changed their parts")
	}
	if l := largest(); !Fits(l, 0, 1024, api.Res{Gpu: 9}) || Fits(l, 0, 1025, api.Res{Gpu: 9}) {
		t.Error("more than MaxMany, on many nodes")
	}
}

func TestP7_2RoomAndFitsOfDrawnOnes(t *testing.T) {
	r := rand.New(rand.NewSource(73))
	for range 500 {
		s := drawn(r)
		need := api.Res{Cpu: r.Intn(1 << r.Intn(21)), Mem: r.Intn(1 << r.Intn(21)), Gpu: r.Intn(2), Lic: r.Intn(1 << r.Intn(21))}
		rooms := make([]int, len(s.Parts))
		for part, nodes := range s.Parts {
			for i, node := range s.Nodes {
				if slices.Contains(nodes, i) {
					rooms[part] += vec.Count(node, need)
				}
			}
			if got := Room(s, part, need); got != rooms[part] {
				t.Fatalf("Room(%v, %d, %v) = %d, want %d", s, part, need, got, rooms[part])
			}
		}
		for queue, q := range s.Queues {
			for _, many := range []int{rooms[q.Part] - 1, rooms[q.Part], rooms[q.Part] + 1, 1, 0} {
				if got := Fits(s, queue, many, need); got != (many >= 1 && many <= rooms[q.Part]) {
					t.Fatalf("Fits(%v, %d, %d, %v) = %t", s, queue, many, need, got)
				}
			}
		}
	}
}

func TestP7_2OfSetUpsThatAreNotRight(t *testing.T) {
	for _, s := range wrongOnes() {
		for i := range 2 {
			if Allowed(s, i, 0) || Room(s, i, api.Res{Cpu: 1}) != 0 || Fits(s, i, 1, api.Res{Cpu: 1}) {
				t.Errorf("%s is wrong, but something is answered of queue or part %d", Flaw(s), i)
			}
		}
	}
}

func TestP7_3Small(t *testing.T) {
	s := Small()
	if !same(s, small()) {
		t.Fatalf("Small() = %v", s)
	}
	if !Right(s) || Flaw(s) != "" {
		t.Fatalf("Small isn't right: %s", Flaw(s))
	}
	s.Nodes[0].Cpu, s.Parts[0][0], s.Parts[1], s.Queues[0].Qos, s.Queues[1].Users[1] = 99, 1, nil, 99, 2
	if again := Small(); !same(again, small()) {
		t.Errorf("what was handed out before was changed: Small() = %v", again)
	}
}
