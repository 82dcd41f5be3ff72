package nat

import (
	"math"
	"math/big"
	"testing"

	"drayage/api"
)

// edges are numbers at which a sum or a product may run over, and those beside them.
var edges = []int{
	math.MinInt, math.MinInt + 1, -api.MaxNumber, -2, -1,
	0, 1, 2, 3, 4, 5, 6, 7, 41, 42, 43,
	1<<31 - 1, 1 << 31, 1<<32 - 1, 1 << 32, 1<<32 + 1,
	3037000499, 3037000500, // the root of MaxInt, rounded down and up
	api.MaxNumber - 1, api.MaxNumber, api.MaxNumber + 1,
	math.MaxInt/2 - 1, math.MaxInt / 2, math.MaxInt/2 + 1,
	math.MaxInt - 2, math.MaxInt - 1, math.MaxInt,
}

// small are all numbers near 0.
func small() []int {
	var l []int
	for n := -3; n <= 24; n++ {
		l = append(l, n)
	}
	return l
}

// limited is what an exact result is answered as: no call may differ from it.
func limited(exact *big.Int, limit int, parts ...int) (int, api.Errno) {
	for _, n := range append([]int{limit}, parts...) {
		if n < 0 {
			return 0, api.ErrArg
		}
	}
	if exact.Cmp(big.NewInt(int64(limit))) > 0 {
		return 0, api.ErrOver
	}
	return int(exact.Int64()), api.OK
}

func TestP1_1HoldNumbers(t *testing.T) {
	for _, c := range []struct{ n, lo, hi, want int }{
		{7, 1, 5, 5}, {-1, 0, 5, 0}, {3, 1, 5, 3},
		{1, 1, 5, 1}, {5, 1, 5, 5}, {0, 1, 5, 1}, {6, 1, 5, 5},
		{4, 4, 4, 4}, {3, 4, 4, 4}, {5, 4, 4, 4},
		{-7, -5, -2, -5}, {-1, -5, -2, -2}, {-3, -5, -2, -3},
		{math.MinInt, 0, 1, 0}, {math.MaxInt, 0, 1, 1},
		{0, math.MinInt, math.MaxInt, 0},
		{math.MinInt, math.MinInt, math.MaxInt, math.MinInt},
		{math.MaxInt, math.MinInt, math.MaxInt, math.MaxInt},
	} {
		if got := Hold(c.n, c.lo, c.hi); got != c.want {
			t.Errorf("Hold(%d, %d, %d) = %d, want %d", c.n, c.lo, c.hi, got, c.want)
		}
	}
}

// Where lo is above hi, what is asked first decides.
func TestP1_1HoldTurnedRound(t *testing.T) {
	for _, c := range []struct{ n, lo, hi, want int }{
		{0, 5, 1, 5}, {3, 5, 1, 5}, {4, 5, 1, 5}, {5, 5, 1, 1}, {7, 5, 1, 1},
	} {
		if got := Hold(c.n, c.lo, c.hi); got != c.want {
			t.Errorf("Hold(%d, %d, %d) = %d, want %d", c.n, c.lo, c.hi, got, c.want)
		}
	}
}

type grade int8

func TestP1_1HoldWhateverHasAnOrder(t *testing.T) {
	if got := Hold("b", "a", "c"); got != "b" {
		t.Errorf("within: %q", got)
	}
	if got := Hold("", "a", "c"); got != "a" {
		t.Errorf("below: %q", got)
	}
	if got := Hold("c\x00", "a", "c"); got != "c" {
		t.Errorf("above: %q", got)
	}
	if got := Hold("\xff", "a", "\xfe"); got != "\xfe" {
		t.Errorf("bytes: %q", got)
	}
	if got := Hold(2.5, 0, 2.25); got != 2.25 {
		t.Errorf("float: %v", got)
	}
	if got := Hold(math.Inf(-1), 0, 1); got != 0 {
		t.Errorf("infinite: %v", got)
	}
	if got := Hold(math.NaN(), 0, 1); !math.IsNaN(got) {
		t.Errorf("neither below nor above: %v", got)
	}
	if got := Hold(uint64(math.MaxUint64), 0, 1<<63); got != 1<<63 {
		t.Errorf("uint64: %v", got)
	}
	if got := Hold(grade(127), -128, 5); got != 5 {
		t.Errorf("named: %v", got)
	}
}

func TestP1_2AddCases(t *testing.T) {
	for _, c := range []struct {
		a, b, limit, want int
		err               api.Errno
	}{
		{3, 4, 6, 0, api.ErrOver}, {3, 4, 7, 7, api.OK}, {3, 4, 8, 7, api.OK},
		{0, 0, 0, 0, api.OK}, {0, 1, 0, 0, api.ErrOver}, {1, 0, 0, 0, api.ErrOver},
		{-1, 4, 7, 0, api.ErrArg}, {4, -1, 7, 0, api.ErrArg}, {0, 0, -1, 0, api.ErrArg},
		{9, 9, -1, 0, api.ErrArg}, {-1, 9, 7, 0, api.ErrArg}, {9, -1, 7, 0, api.ErrArg},
		{math.MaxInt, 0, math.MaxInt, math.MaxInt, api.OK},
		{0, math.MaxInt, math.MaxInt, math.MaxInt, api.OK},
		{math.MaxInt, 1, math.MaxInt, 0, api.ErrOver},
		{math.MaxInt, math.MaxInt, math.MaxInt, 0, api.ErrOver},
		{math.MinInt, math.MinInt, math.MaxInt, 0, api.ErrArg},
	} {
		got, err := Add(c.a, c.b, c.limit)
		if got != c.want || err != c.err {
			t.Errorf("Add(%d, %d, %d) = %d, %d, want %d, %d", c.a, c.b, c.limit, got, err, c.want, c.err)
		}
	}
}

func TestP1_2MulCases(t *testing.T) {
	for _, c := range []struct {
		a, b, limit, want int
		err               api.Errno
	}{
		{6, 7, 42, 42, api.OK}, {6, 7, 41, 0, api.ErrOver}, {6, 7, 43, 42, api.OK},
		{0, 9, 0, 0, api.OK}, {9, 0, 0, 0, api.OK}, {0, 0, 0, 0, api.OK}, {1, 1, 0, 0, api.ErrOver},
		{0, math.MaxInt, 0, 0, api.OK}, {math.MaxInt, 0, 0, 0, api.OK},
		{-1, 0, 5, 0, api.ErrArg}, {0, -1, 5, 0, api.ErrArg}, {0, 0, -1, 0, api.ErrArg},
		{-2, -3, 6, 0, api.ErrArg}, {9, 9, -1, 0, api.ErrArg},
		{math.MaxInt, 1, math.MaxInt, math.MaxInt, api.OK},
		{1, math.MaxInt, math.MaxInt, math.MaxInt, api.OK},
		{math.MaxInt, 2, math.MaxInt, 0, api.ErrOver},
		{1 << 32, 1 << 32, math.MaxInt, 0, api.ErrOver}, // 0, if the product runs round
		{math.MaxInt, math.MaxInt, math.MaxInt, 0, api.ErrOver},
		{math.MinInt, math.MinInt, math.MaxInt, 0, api.ErrArg},
	} {
		got, err := Mul(c.a, c.b, c.limit)
		if got != c.want || err != c.err {
			t.Errorf("Mul(%d, %d, %d) = %d, %d, want %d, %d", c.a, c.b, c.limit, got, err, c.want, c.err)
		}
	}
}

func TestP1_2AddAndMulAreExact(t *testing.T) {
	for _, l := range [][]int{edges, small()} {
		for _, a := range l {
			for _, b := range l {
				x, y := big.NewInt(int64(a)), big.NewInt(int64(b))
				sum, product := new(big.Int).Add(x, y), new(big.Int).Mul(x, y)
				for _, limit := range l {
					want, wantErr := limited(sum, limit, a, b)
					if got, err := Add(a, b, limit); got != want || err != wantErr {
						t.Fatalf("Add(%d, %d, %d) = %d, %d, want %d, %d", a, b, limit, got, err, want, wantErr)
					}
					want, wantErr = limited(product, limit, a, b)
					if got, err := Mul(a, b, limit); got != want || err != wantErr {
						t.Fatalf("Mul(%d, %d, %d) = %d, %d, want %d, %d", a, b, limit, got, err, want, wantErr)
					}
				}
			}
		}
	}
}

func TestP1_2SumCases(t *testing.T) {
	for _, c := range []struct {
		l     []int
		limit int
		want  int
		err   api.Errno
	}{
		{nil, 0, 0, api.OK}, {[]int{}, 5, 0, api.OK}, {nil, -1, 0, api.ErrArg},
		{[]int{0, 0}, 0, 0, api.OK}, {[]int{5}, 5, 5, api.OK}, {[]int{6}, 5, 0, api.ErrOver},
		{[]int{1, 2, 3}, 6, 6, api.OK}, {[]int{1, 2, 3}, 5, 0, api.ErrOver}, {[]int{1, 2, 3}, 7, 6, api.OK},
		{[]int{1, 2, 3}, -1, 0, api.ErrArg},
		{[]int{1, -2}, 6, 0, api.ErrArg}, {[]int{-1, 2}, 6, 0, api.ErrArg},
		{[]int{9, 9, -1}, 6, 0, api.ErrArg}, // wrong is told ahead of over
		{[]int{4, 4, -2}, 6, 0, api.ErrArg}, // nor does it make the sum less
		{[]int{7, 0}, 6, 0, api.ErrOver},
		{[]int{math.MaxInt}, math.MaxInt, math.MaxInt, api.OK},
		{[]int{math.MaxInt - 1, 0, 1}, math.MaxInt, math.MaxInt, api.OK},
		{[]int{math.MaxInt, 1}, math.MaxInt, 0, api.ErrOver},
		{[]int{math.MaxInt, math.MaxInt, 2}, math.MaxInt, 0, api.ErrOver}, // 0, if the sum runs round
		{[]int{math.MaxInt, math.MaxInt, math.MinInt}, math.MaxInt, 0, api.ErrArg},
		{[]int{math.MinInt, math.MinInt}, 0, 0, api.ErrArg},
	} {
		got, err := Sum(c.l, c.limit)
		if got != c.want || err != c.err {
			t.Errorf("Sum(%v, %d) = %d, %d, want %d, %d", c.l, c.limit, got, err, c.want, c.err)
		}
	}
}

func TestP1_2SumIsExact(t *testing.T) {
	for _, a := range edges {
		for _, b := range edges {
			for _, c := range edges {
				l := []int{a, b, c}
				sum := new(big.Int)
				for _, n := range l {
					sum.Add(sum, big.NewInt(int64(n)))
				}
				for _, limit := range []int{-1, 0, 7, api.MaxNumber, math.MaxInt - 1, math.MaxInt} {
					want, wantErr := limited(sum, limit, l...)
					if got, err := Sum(l, limit); got != want || err != wantErr {
						t.Fatalf("Sum(%v, %d) = %d, %d, want %d, %d", l, limit, got, err, want, wantErr)
					}
				}
				if l[0] != a || l[1] != b || l[2] != c {
					t.Fatalf("the list was changed: %v", l)
				}
			}
		}
	}
}

func TestP1_3UpCases(t *testing.T) {
	for _, c := range []struct{ a, b, want int }{
		{7, 2, 4}, {6, 3, 2}, {7, 3, 3}, {8, 3, 3}, {9, 3, 3}, {10, 3, 4},
		{1, 1, 1}, {1, 9, 1}, {9, 1, 9}, {9, 9, 1}, {10, 9, 2},
		{0, 3, 0}, {1, 0, 0}, {0, 0, 0}, {-1, 3, 0}, {3, -1, 0}, {-6, -3, 0},
		{math.MaxInt, 1, math.MaxInt}, {math.MaxInt, 2, math.MaxInt/2 + 1},
		{math.MaxInt, math.MaxInt, 1}, {math.MaxInt - 1, math.MaxInt, 1},
		{math.MaxInt, math.MaxInt - 1, 2}, {1, math.MaxInt, 1},
		{math.MinInt, -1, 0}, {math.MinInt, 1, 0}, {1, math.MinInt, 0},
	} {
		if got := Up(c.a, c.b); got != c.want {
			t.Errorf("Up(%d, %d) = %d, want %d", c.a, c.b, got, c.want)
		}
	}
}

func TestP1_3UpIsTheLeastThatReaches(t *testing.T) {
	for _, l := range [][]int{edges, small()} {
		for _, a := range l {
			for _, b := range l {
				got := Up(a, b)
				if a < 1 || b < 1 {
					if got != 0 {
						t.Fatalf("Up(%d, %d) = %d, want 0", a, b, got)
					}
					continue
				}
				n, x, y := big.NewInt(int64(got)), big.NewInt(int64(a)), big.NewInt(int64(b))
				high := new(big.Int).Mul(n, y)
				low := new(big.Int).Sub(high, y)
				if high.Cmp(x) < 0 || low.Cmp(x) >= 0 {
					t.Fatalf("Up(%d, %d) = %d", a, b, got)
				}
			}
		}
	}
}
