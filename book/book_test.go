package book

import (
	"math"
	"math/rand"
	"slices"
	"testing"

	"drayage/api"
)

const (
	mostNumber = 1 << 48
	mostTime   = 1 << 40
	mostBooks  = 16
)

// far are numbers below and above all that a booking may have: those that fewer bits would take for others are among them.
var far = []int{math.MinInt, math.MinInt + 1, math.MinInt + 2, -1 << 62, -1 << 48, -1<<40 + 1, -1<<32 + 1, -1 << 32, -256, -2, -1, mostNumber + 1, mostNumber + 2, 1<<56 + 1, 1 << 62, math.MaxInt - 1, math.MaxInt}

func booking(id, node, from, to int) api.Booking {
	return api.Booking{Id: id, Node: node, From: from, To: to}
}

// of are bookings, of each four numbers one.
func of(numbers ...int) []api.Booking {
	var l []api.Booking
	for i := 0; i < len(numbers); i += 4 {
		l = append(l, booking(numbers[i], numbers[i+1], numbers[i+2], numbers[i+3]))
	}
	return l
}

// row are so many bookings of node 0, one right behind the other.
func row(many int) []api.Booking {
	var l []api.Booking
	for i := range many {
		l = append(l, booking(i+1, 0, i, i+1))
	}
	return l
}

// wantedMeets asks tick by tick, of times from 0 on, and below 32.
func wantedMeets(l []api.Booking, node, from, to int) bool {
	for t := range 32 {
		for _, b := range l {
			if b.Node == node && b.From <= t && t < b.To && from <= t && t < to {
				return true
			}
		}
	}
	return false
}

// wantedRight asks pair by pair, of times below 32.
func wantedRight(l []api.Booking, nodes int) bool {
	for i, b := range l {
		if b.Id < 1 || b.Id > mostNumber || b.Node < 0 || b.Node >= nodes || b.From < 0 || b.To <= b.From || b.To > mostTime {
			return false
		}
		for _, c := range l[:i] {
			if c.Id >= b.Id || wantedMeets([]api.Booking{c}, b.Node, b.From, b.To) {
				return false
			}
		}
	}
	return len(l) <= mostBooks
}

// wantedAdd asks for the errors in the chapter's order.
func wantedAdd(l []api.Booking, nodes int, b api.Booking) ([]api.Booking, api.Errno) {
	if !wantedRight(l, nodes) || !wantedRight([]api.Booking{b}, nodes) {
		return nil, api.ErrArg
	}
	if len(l) == mostBooks {
		return nil, api.ErrLimit
	}
	for _, c := range l {
		if b.Id <= c.Id {
			return nil, api.ErrState
		}
	}
	if wantedMeets(l, b.Node, b.From, b.To) {
		return nil, api.ErrBooked
	}
	return append(slices.Clone(l), b), api.OK
}

// draw is a list of bookings that are right but now and then.
func draw(from *rand.Rand) []api.Booking {
	var l []api.Booking
	id := 0
	for range from.Intn(8) {
		id += 1 + from.Intn(2)
		at := from.Intn(28)
		b := booking(id, from.Intn(4), at, at+1+from.Intn(3))
		switch from.Intn(40) {
		case 0:
			b.Id -= 2
		case 1:
			b.Node = 4 + from.Intn(2)
		case 2:
			b.From = b.To + from.Intn(2)
		case 3:
			b.Node, b.From = -1, 0
		}
		if from.Intn(6) == 0 || !wantedMeets(l, b.Node, b.From, b.To) {
			l = append(l, b)
		}
	}
	return l
}

// checkAdd holds Add against what is wanted, and asks whether it left alone what it was handed.
func checkAdd(t *testing.T, l []api.Booking, nodes int, b api.Booking, want []api.Booking, wantErr api.Errno) {
	t.Helper()
	was := slices.Clone(l)
	got, err := Add(l, nodes, b)
	if err != wantErr || !slices.Equal(got, want) {
		t.Errorf("Add(%v, %d, %v) = %v, %d; want %v, %d", was, nodes, b, got, err, want, wantErr)
	}
	if !slices.Equal(l, was) {
		t.Errorf("Add(%v, %d, %v) changed what was handed in to %v", was, nodes, b, l)
	}
}

// checkDrop does it of Drop.
func checkDrop(t *testing.T, l []api.Booking, id int, want []api.Booking, wantErr api.Errno) {
	t.Helper()
	was := slices.Clone(l)
	got, err := Drop(l, id)
	if err != wantErr || !slices.Equal(got, want) {
		t.Errorf("Drop(%v, %d) = %v, %d; want %v, %d", was, id, got, err, want, wantErr)
	}
	if !slices.Equal(l, was) {
		t.Errorf("Drop(%v, %d) changed what was handed in to %v", was, id, l)
	}
}

// checkExpire does it of Expire.
func checkExpire(t *testing.T, l []api.Booking, now int, want []api.Booking) {
	t.Helper()
	was := slices.Clone(l)
	if got := Expire(l, now); !slices.Equal(got, want) {
		t.Errorf("Expire(%v, %d) = %v, want %v", was, now, got, want)
	}
	if !slices.Equal(l, was) {
		t.Errorf("Expire(%v, %d) changed what was handed in to %v", was, now, l)
	}
}

func TestP12_1RightCases(t *testing.T) {
	for _, c := range []struct {
		name  string
		l     []api.Booking
		nodes int
		want  bool
	}{
		{"one", of(1, 0, 2, 6), 1, true},
		{"the last node", of(1, 2, 2, 6), 3, true},
		{"one tick", of(1, 0, 0, 1), 1, true},
		{"the largest numbers", of(mostNumber, 15, mostTime-1, mostTime), 16, true},
		{"all the time", of(1, 0, 0, mostTime), 1, true},
		{"Ids with a gap", of(2, 0, 5, 6, 9, 0, 1, 2), 1, true},
		{"the chapter's example", of(1, 0, 5, 8, 2, 0, 8, 9), 1, true},
		{"the chapter's example, the later one first", of(1, 0, 8, 9, 2, 0, 5, 8), 1, true},
		{"one time of two nodes", of(1, 0, 5, 8, 2, 1, 5, 8), 2, true},
		{"none", nil, 3, true},
		{"an empty list", []api.Booking{}, 3, true},
		{"none, of no nodes", nil, 0, true},
		{"as many as there may be", row(mostBooks), 1, true},
		{"one more than there may be", row(mostBooks + 1), 1, false},
		{"Id 0", of(0, 0, 2, 6), 1, false},
		{"Id below 0", of(-1, 0, 2, 6), 1, false},
		{"an Id above all numbers", of(mostNumber+1, 0, 2, 6), 1, false},
		{"one Id twice", of(1, 0, 2, 6, 1, 1, 2, 6), 2, false},
		{"falling Ids", of(2, 0, 2, 6, 1, 1, 2, 6), 2, false},
		{"Ids that fall at the end", of(1, 0, 2, 6, 3, 1, 2, 6, 2, 1, 8, 9), 2, false},
		{"a node below 0", of(1, -1, 2, 6), 2, false},
		{"one node too far", of(1, 2, 2, 6), 2, false},
		{"the second one too far", of(1, 0, 2, 6, 2, 2, 2, 6), 2, false},
		{"one of no nodes", of(1, 0, 2, 6), 0, false},
		{"one of fewer nodes than none", of(1, 0, 2, 6), -1, false},
		{"one below all, of fewer nodes than none", of(1, -2, 2, 6), -1, false},
		{"from below 0 on", of(1, 0, -1, 6), 1, false},
		{"no time", of(1, 0, 5, 5), 1, false},
		{"less than no time", of(1, 0, 5, 4), 1, false},
		{"no time, at 0", of(1, 0, 0, 0), 1, false},
		{"beyond all time", of(1, 0, 5, mostTime+1), 1, false},
		{"nothing but beyond all time", of(1, 0, mostTime, mostTime+1), 1, false},
		{"one time twice", of(1, 0, 5, 8, 2, 0, 5, 8), 1, false},
		{"the last tick in common", of(1, 0, 5, 8, 2, 0, 7, 9), 1, false},
		{"the first tick in common", of(1, 0, 7, 9, 2, 0, 5, 8), 1, false},
		{"one within the other", of(1, 0, 5, 8, 2, 0, 6, 7), 1, false},
		{"one around the other", of(1, 0, 6, 7, 2, 0, 5, 8), 1, false},
		{"a time in common, not side by side", of(1, 0, 5, 8, 2, 1, 5, 8, 3, 0, 7, 9), 2, false},
	} {
		was := slices.Clone(c.l)
		if got := Right(c.l, c.nodes); got != c.want {
			t.Errorf("%s: Right(%v, %d) = %v, want %v", c.name, c.l, c.nodes, got, c.want)
		}
		if !slices.Equal(c.l, was) {
			t.Errorf("%s: Right changed %v to %v", c.name, was, c.l)
		}
	}
}

func TestP12_1RightOfFarNumbers(t *testing.T) {
	for _, n := range far {
		for _, b := range []api.Booking{booking(n, 0, 2, 6), booking(1, n, 2, 6), booking(1, 0, n, 6), booking(1, 0, 2, n), booking(1, 0, n, n)} {
			if Right([]api.Booking{b}, 16) {
				t.Errorf("%v is right", b)
			}
			if Right([]api.Booking{booking(1, 1, 2, 6), b}, 16) {
				t.Errorf("%v is right behind another one", b)
			}
		}
		if got := Right(of(1, 0, 2, 6, 2, 1, 2, 6), n); got != (n > 0) {
			t.Errorf("nodes 0 and 1 of %d: %v", n, got)
		}
	}
	if Right(of(1, math.MaxInt, 2, 6), math.MaxInt) || !Right(of(1, math.MaxInt-1, 2, 6), math.MaxInt) {
		t.Error("the last one of as many nodes as there can be")
	}
}

func TestP12_1MeetsCases(t *testing.T) {
	l := of(1, 0, 5, 8, 2, 1, 2, 4, 3, 0, 10, 12)
	for _, c := range []struct {
		name           string
		node, from, to int
		want           bool
	}{
		{"just so", 0, 5, 8, true},
		{"within", 0, 6, 7, true},
		{"around", 0, 4, 9, true},
		{"the first tick", 0, 4, 6, true},
		{"the last tick", 0, 7, 9, true},
		{"one tick", 0, 5, 6, true},
		{"the last of two", 0, 11, 20, true},
		{"both", 0, 0, mostTime, true},
		{"another node's", 1, 3, 9, true},
		{"right ahead", 0, 0, 5, false},
		{"right behind", 0, 8, 9, false},
		{"between", 0, 8, 10, false},
		{"behind all", 0, 12, mostTime, false},
		{"another node", 1, 5, 8, false},
		{"a node of which nothing is booked", 2, 0, mostTime, false},
		{"a node below 0", -1, 0, mostTime, false},
		{"no time, within", 0, 6, 6, false},
		{"no time, at the beginning", 0, 5, 5, false},
		{"less than no time", 0, 7, 6, false},
		{"less than no time, around", 0, 9, 4, false},
	} {
		was := slices.Clone(l)
		if got := Meets(l, c.node, c.from, c.to); got != c.want {
			t.Errorf("%s: Meets(%v, %d, %d, %d) = %v, want %v", c.name, l, c.node, c.from, c.to, got, c.want)
		}
		if !slices.Equal(l, was) {
			t.Errorf("%s: Meets changed %v to %v", c.name, was, l)
		}
	}
	if Meets(nil, 0, 0, mostTime) || Meets([]api.Booking{}, 0, 0, mostTime) {
		t.Error("none meet")
	}
}

func TestP12_1MeetsOfWhatIsNotRight(t *testing.T) {
	for _, c := range []struct {
		l              []api.Booking
		node, from, to int
		want           bool
	}{
		{of(0, 0, 6, 6), 0, 5, 8, false},
		{of(0, 0, 8, 5), 0, 6, 7, false},
		{of(0, 0, 8, 5), 0, 4, 9, false},
		{of(0, 0, 8, 5), 0, 9, 4, false},
		{of(0, -1, 5, 8), -1, 5, 8, true},
		{of(0, 99, 5, 8), 99, 7, 8, true},
		{of(9, 0, -8, -5), 0, -6, -5, true},
		{of(9, 0, -8, -5), 0, -5, 0, false},
		{of(1, 0, 2, 4, 1, 0, 5, 8), 0, 7, 8, true},
		{of(1, 0, math.MinInt, math.MaxInt), 0, 0, 1, true},
		{of(1, 0, math.MinInt, math.MaxInt), 0, math.MinInt, math.MaxInt, true},
		{of(1, 0, math.MinInt, math.MinInt+1), 0, math.MinInt, math.MinInt + 1, true},
		{of(1, 0, math.MinInt, math.MinInt+1), 0, math.MinInt + 1, math.MaxInt, false},
		{of(1, 0, math.MaxInt-1, math.MaxInt), 0, math.MinInt, math.MaxInt, true},
		{of(1, 0, math.MaxInt-1, math.MaxInt), 0, math.MinInt, math.MaxInt - 1, false},
		{of(1, 0, math.MaxInt, math.MinInt), 0, math.MinInt, math.MaxInt, false},
		{of(1, math.MinInt, 5, 8), math.MinInt, 5, 8, true},
		{of(1, math.MinInt, 5, 8), 0, 5, 8, false},
	} {
		if got := Meets(c.l, c.node, c.from, c.to); got != c.want {
			t.Errorf("Meets(%v, %d, %d, %d) = %v, want %v", c.l, c.node, c.from, c.to, got, c.want)
		}
	}
	if !Meets(row(100), 0, 99, 100) {
		t.Error("the last one of more than there may be isn't met")
	}
}

func TestP12_1MeetsOfFarNumbers(t *testing.T) {
	l := of(1, 0, 5, 8, 2, 1, 2, 4)
	for _, n := range far {
		if Meets(l, n, 0, mostTime) {
			t.Errorf("node %d meets", n)
		}
		if got := Meets(l, 0, n, 6); got != (n < 0) {
			t.Errorf("from %d on, and below 6: %v", n, got)
		}
		if got := Meets(l, 0, 7, n); got != (n > 0) {
			t.Errorf("from 7 on, and below %d: %v", n, got)
		}
		if Meets(l, 0, n, n) || Meets(l, 0, 8, n) || Meets(l, 0, n, 5) {
			t.Errorf("with %d: what is free meets", n)
		}
	}
}

func TestP12_1OfMany(t *testing.T) {
	from := rand.New(rand.NewSource(21))
	rights := 0
	for range 4000 {
		l := draw(from)
		for _, nodes := range []int{0, 1, 3, 4, 5} {
			want := wantedRight(l, nodes)
			if got := Right(l, nodes); got != want {
				t.Fatalf("Right(%v, %d) = %v", l, nodes, got)
			}
			if want && len(l) > 1 {
				rights++
			}
		}
		node, begin, end := from.Intn(6)-1, from.Intn(32), from.Intn(33)
		if got := Meets(l, node, begin, end); got != wantedMeets(l, node, begin, end) {
			t.Fatalf("Meets(%v, %d, %d, %d) = %v", l, node, begin, end, got)
		}
	}
	if rights < 1000 {
		t.Errorf("only %d were right", rights)
	}
}

func TestP12_1LastCases(t *testing.T) {
	for _, c := range []struct {
		l    []api.Booking
		want int
	}{
		{nil, 0},
		{[]api.Booking{}, 0},
		{of(1, 0, 5, 8), 8},
		{of(1, 0, 5, 8, 2, 1, 2, 4), 8},
		{of(1, 1, 2, 4, 2, 0, 5, 8), 8},
		{of(1, 1, 2, 4, 2, 0, 5, 8, 3, 1, 5, 6), 8},
		{of(1, 0, 0, mostTime, 2, 1, 2, 4), mostTime},
		{of(1, 0, 8, 5), 5},
		{of(0, -1, 0, 1), 1},
		{of(1, 0, -9, 0), 0},
		{of(1, 0, -9, -1), 0},
		{of(1, 0, -9, -1, 2, 0, -9, -3), 0},
		{of(1, 0, -9, -1, 2, 0, 2, 3), 3},
		{of(1, 0, 0, math.MinInt), 0},
		{of(1, 0, 0, math.MaxInt, 2, 0, 0, math.MinInt), math.MaxInt},
		{of(1, 0, math.MaxInt, 7), 7},
		{row(100), 100},
	} {
		was := slices.Clone(c.l)
		if got := Last(c.l); got != c.want {
			t.Errorf("Last(%v) = %d, want %d", was, got, c.want)
		}
		if !slices.Equal(c.l, was) {
			t.Errorf("Last changed %v to %v", was, c.l)
		}
	}
}

func TestP12_2AddCases(t *testing.T) {
	two := of(1, 0, 5, 8, 4, 1, 2, 4)
	for _, c := range []struct {
		name  string
		l     []api.Booking
		nodes int
		b     api.Booking
		err   api.Errno
	}{
		{"the first one", nil, 1, booking(1, 0, 2, 6), api.OK},
		{"the first one, of an empty list", []api.Booking{}, 1, booking(7, 0, 2, 6), api.OK},
		{"one more", two, 2, booking(5, 0, 10, 12), api.OK},
		{"right behind", two, 2, booking(5, 0, 8, 9), api.OK},
		{"right ahead", two, 2, booking(5, 0, 0, 5), api.OK},
		{"ahead of one, behind another one's time", two, 2, booking(9, 1, 5, 8), api.OK},
		{"the largest numbers", two, 2, booking(mostNumber, 1, 4, mostTime), api.OK},
		{"the last one that there may be", row(mostBooks - 1), 1, booking(16, 0, 20, 30), api.OK},
		{"of a node that there isn't", two, 2, booking(5, 2, 5, 8), api.ErrArg},
		{"no time", two, 2, booking(5, 0, 10, 10), api.ErrArg},
		{"less than no time", two, 2, booking(5, 0, 10, 9), api.ErrArg},
		{"from below 0 on", two, 2, booking(5, 0, -1, 2), api.ErrArg},
		{"beyond all time", two, 2, booking(5, 0, 10, mostTime+1), api.ErrArg},
		{"an Id above all numbers", two, 2, booking(mostNumber+1, 0, 10, 12), api.ErrArg},
		{"Id 0", nil, 2, booking(0, 0, 10, 12), api.ErrArg},
		{"nothing", two, 2, api.Booking{}, api.ErrArg},
		{"to what isn't right: a node", two, 1, booking(5, 0, 10, 12), api.ErrArg},
		{"to what isn't right: no nodes", nil, 0, booking(5, 0, 10, 12), api.ErrArg},
		{"to what isn't right: Ids", of(4, 0, 5, 8, 1, 1, 2, 4), 2, booking(5, 0, 10, 12), api.ErrArg},
		{"to what isn't right: a time in common", of(1, 0, 5, 8, 4, 0, 7, 9), 2, booking(5, 0, 10, 12), api.ErrArg},
		{"to what isn't right: more than there may be", row(mostBooks + 1), 1, booking(18, 0, 20, 30), api.ErrArg},
		{"one more than there may be", row(mostBooks), 1, booking(17, 0, 20, 30), api.ErrLimit},
		{"one more than there may be, of an Id that is there", row(mostBooks), 1, booking(16, 0, 20, 30), api.ErrLimit},
		{"one more than there may be, that meets", row(mostBooks), 1, booking(17, 0, 2, 3), api.ErrLimit},
		{"one more than there may be, that isn't right", row(mostBooks), 1, booking(17, 1, 20, 30), api.ErrArg},
		{"the last one's Id", two, 2, booking(4, 0, 10, 12), api.ErrState},
		{"the first one's Id", two, 2, booking(1, 0, 10, 12), api.ErrState},
		{"an Id between", two, 2, booking(2, 0, 10, 12), api.ErrState},
		{"an Id between, that meets", two, 2, booking(2, 0, 5, 8), api.ErrState},
		{"an Id that is there, and no time", two, 2, booking(4, 0, 5, 5), api.ErrArg},
		{"that meets the first one", two, 2, booking(5, 0, 7, 9), api.ErrBooked},
		{"that meets the last one", two, 2, booking(5, 1, 0, 3), api.ErrBooked},
		{"that is one, but for its Id", two, 2, booking(5, 0, 5, 8), api.ErrBooked},
		{"that meets, as the last one that there may be", row(mostBooks - 1), 1, booking(16, 0, 14, 30), api.ErrBooked},
	} {
		t.Run(c.name, func(t *testing.T) {
			var want []api.Booking
			if c.err == api.OK {
				want = append(slices.Clone(c.l), c.b)
			}
			checkAdd(t, c.l, c.nodes, c.b, want, c.err)
		})
	}
}

func TestP12_2AddOfFarNumbers(t *testing.T) {
	for _, n := range far {
		for _, b := range []api.Booking{booking(n, 0, 10, 12), booking(5, n, 10, 12), booking(5, 0, n, 12), booking(5, 0, 10, n), booking(n, n, n, n)} {
			checkAdd(t, of(1, 0, 5, 8), 2, b, nil, api.ErrArg)
			checkAdd(t, nil, 2, b, nil, api.ErrArg)
			checkAdd(t, []api.Booking{b}, 2, booking(7, 1, 20, 22), nil, api.ErrArg)
		}
		if n < 0 {
			checkAdd(t, nil, n, booking(1, 0, 2, 6), nil, api.ErrArg)
		} else {
			checkAdd(t, nil, n, booking(1, 0, 2, 6), of(1, 0, 2, 6), api.OK)
		}
	}
}

func TestP12_2AddOfMany(t *testing.T) {
	from := rand.New(rand.NewSource(22))
	told := map[api.Errno]int{}
	for range 6000 {
		l := draw(from)
		if from.Intn(20) == 0 {
			l = row(mostBooks - 1 + from.Intn(3))
		}
		at := from.Intn(26)
		b := booking(from.Intn(24), from.Intn(4), at, at+from.Intn(4))
		want, err := wantedAdd(l, 4, b)
		told[err]++
		checkAdd(t, l, 4, b, want, err)
	}
	for _, err := range []api.Errno{api.OK, api.ErrArg, api.ErrLimit, api.ErrState, api.ErrBooked} {
		if told[err] < 50 {
			t.Errorf("error %d was asked for %d times", err, told[err])
		}
	}
}

func TestP12_2DropCases(t *testing.T) {
	three := of(1, 0, 5, 8, 4, 1, 2, 4, 6, 0, 10, 12)
	for _, c := range []struct {
		name string
		l    []api.Booking
		id   int
		want []api.Booking
		err  api.Errno
	}{
		{"the first one", three, 1, of(4, 1, 2, 4, 6, 0, 10, 12), api.OK},
		{"one between", three, 4, of(1, 0, 5, 8, 6, 0, 10, 12), api.OK},
		{"the last one", three, 6, of(1, 0, 5, 8, 4, 1, 2, 4), api.OK},
		{"the only one", of(7, 0, 5, 8), 7, nil, api.OK},
		{"an Id between", three, 5, nil, api.ErrNone},
		{"an Id ahead of all", three, 0, nil, api.ErrNone},
		{"an Id behind all", three, 7, nil, api.ErrNone},
		{"a place, not an Id", three, 2, nil, api.ErrNone},
		{"of none", nil, 1, nil, api.ErrNone},
		{"Id 0 of none", nil, 0, nil, api.ErrNone},
		{"of an empty list", []api.Booking{}, 1, nil, api.ErrNone},
		{"one Id twice: the first one alone", of(2, 0, 5, 8, 3, 0, 9, 10, 3, 1, 1, 2, 4, 0, 1, 2), 3, of(2, 0, 5, 8, 3, 1, 1, 2, 4, 0, 1, 2), api.OK},
		{"one booking twice", of(3, 0, 5, 8, 3, 0, 5, 8), 3, of(3, 0, 5, 8), api.OK},
		{"falling Ids", of(9, 0, 5, 8, 3, 0, 9, 10, 1, 0, 1, 2), 1, of(9, 0, 5, 8, 3, 0, 9, 10), api.OK},
		{"Id 0", of(1, 0, 5, 8, 0, -1, 9, 2), 0, of(1, 0, 5, 8), api.OK},
		{"an Id below 0", of(-1, 0, 5, 8, 1, 0, 5, 8), -1, of(1, 0, 5, 8), api.OK},
		{"of more than there may be", row(100), 1, row(100)[1:], api.OK},
		{"the last of more than there may be", row(100), 100, row(99), api.OK},
	} {
		t.Run(c.name, func(t *testing.T) { checkDrop(t, c.l, c.id, c.want, c.err) })
	}
}

func TestP12_2DropOfFarNumbers(t *testing.T) {
	for _, n := range far {
		checkDrop(t, of(1, 0, 5, 8, 2, 1, 2, 4), n, nil, api.ErrNone)
		checkDrop(t, of(1, 0, 5, 8, n, 1, 2, 4, 2, 0, 1, 2), n, of(1, 0, 5, 8, 2, 0, 1, 2), api.OK)
	}
}

func TestP12_2ExpireCases(t *testing.T) {
	three := of(1, 0, 5, 8, 4, 1, 2, 4, 6, 0, 10, 12)
	for _, c := range []struct {
		name string
		l    []api.Booking
		now  int
		want []api.Booking
	}{
		{"nothing is over", three, 3, three},
		{"one is just over", three, 4, of(1, 0, 5, 8, 6, 0, 10, 12)},
		{"one has a tick to go", three, 7, of(1, 0, 5, 8, 6, 0, 10, 12)},
		{"two are over", three, 8, of(6, 0, 10, 12)},
		{"the last tick", three, 11, of(6, 0, 10, 12)},
		{"all are over", three, 12, nil},
		{"all are long over", three, mostTime, nil},
		{"at 0", three, 0, three},
		{"below 0", three, -1, three},
		{"of none", nil, 3, nil},
		{"of an empty list", []api.Booking{}, 3, nil},
		{"to the end of all time", of(1, 0, 0, mostTime), mostTime - 1, of(1, 0, 0, mostTime)},
		{"at the end of all time", of(1, 0, 0, mostTime), mostTime, nil},
		{"what isn't right", of(9, -1, 9, 6, 0, 77, 5, 5, 9, 0, 3, 7), 5, of(9, -1, 9, 6, 9, 0, 3, 7)},
		{"To below 0", of(1, 0, -9, -3, 2, 0, -9, -4), -4, of(1, 0, -9, -3)},
		{"of more than there may be", row(100), 50, row(100)[50:]},
	} {
		t.Run(c.name, func(t *testing.T) { checkExpire(t, c.l, c.now, c.want) })
	}
}

func TestP12_2ExpireOfFarNumbers(t *testing.T) {
	l := of(1, 0, 5, 8, 2, 1, 2, 4)
	for _, n := range far {
		var left []api.Booking
		if n < 0 {
			left = l
		}
		checkExpire(t, l, n, left)
		checkExpire(t, of(1, 0, 5, n), n, nil)
		var late []api.Booking
		if n > 0 {
			late = of(1, 0, 5, n)
		}
		checkExpire(t, of(1, 0, 5, n), 7, late)
	}
}

func TestP12_2AnswersAreNewMemory(t *testing.T) {
	l := append(make([]api.Booking, 0, 8), of(1, 0, 5, 8, 4, 1, 2, 4)...)
	one, _ := Add(l, 2, booking(5, 0, 10, 12))
	two, _ := Add(l, 2, booking(6, 0, 20, 22))
	first, _ := Drop(l, 1)
	last, _ := Drop(l, 4)
	all := Expire(l, 0)
	clear(append(l, booking(8, 0, 40, 42)))
	for _, c := range []struct{ got, want []api.Booking }{
		{one, of(1, 0, 5, 8, 4, 1, 2, 4, 5, 0, 10, 12)},
		{two, of(1, 0, 5, 8, 4, 1, 2, 4, 6, 0, 20, 22)},
		{first, of(4, 1, 2, 4)},
		{last, of(1, 0, 5, 8)},
		{all, of(1, 0, 5, 8, 4, 1, 2, 4)},
	} {
		if !slices.Equal(c.got, c.want) {
			t.Errorf("an answer became %v, was %v", c.got, c.want)
		}
	}
}

func TestP12_2NothingBehindAListIsTouched(t *testing.T) {
	all := of(1, 0, 5, 8, 4, 1, 2, 4, 6, 0, 10, 12)
	was := slices.Clone(all)
	Add(all[:1], 2, booking(3, 1, 10, 12))
	Drop(all[:2], 1)
	Expire(all[:2], 5)
	if !slices.Equal(all, was) {
		t.Errorf("what stands behind the list became %v", all)
	}
}

func TestP12_3WhatIsAddedIsRightAndDroppedAgain(t *testing.T) {
	from := rand.New(rand.NewSource(23))
	added := 0
	for range 4000 {
		l := draw(from)
		at := from.Intn(26)
		b := booking(1+from.Intn(24), from.Intn(5), at, at+from.Intn(4))
		more, err := Add(l, 4, b)
		if err != api.OK {
			continue
		}
		added++
		if !wantedRight(more, 4) || !Right(more, 4) {
			t.Fatalf("Add(%v, 4, %v) = %v, which isn't right", l, b, more)
		}
		checkDrop(t, more, b.Id, l, api.OK)
	}
	if added < 1000 {
		t.Errorf("only %d were added", added)
	}
}

func TestP12_3ManyInTurn(t *testing.T) {
	from := rand.New(rand.NewSource(24))
	var l []api.Booking
	id, full := 1, 0
	for now := 0; now < 3000; now++ {
		at := now + from.Intn(60)
		b := booking(id, from.Intn(4), at, at+1+from.Intn(9))
		if more, err := Add(l, 4, b); err == api.OK {
			l, id = more, id+1
		}
		if len(l) > 0 && from.Intn(12) == 0 {
			b = l[from.Intn(len(l))]
			less, err := Drop(l, b.Id)
			if err != api.OK || slices.Contains(less, b) || len(less) != len(l)-1 {
				t.Fatalf("Drop(%v, %d) = %v, %d", l, b.Id, less, err)
			}
			l = less
		}
		if len(l) == mostBooks {
			full++
		}
		l = Expire(l, now)
		if !Right(l, 4) || len(l) > 0 && Last(l) <= now {
			t.Fatalf("at %d: %v", now, l)
		}
	}
	if full == 0 || id < 500 {
		t.Errorf("it was full %d times, %d were added", full, id-1)
	}
}
