package vec

import (
	"math"
	"math/big"
	"testing"

	"drayage/api"
)

// edges are numbers at which a bound lies, or at which floats and whole numbers of 32 or 64 bits begin to differ, and those beside them.
var edges = []int{
	math.MinInt, math.MinInt + 1, -(1 << 53) - 1, -(1 << 32), -api.MaxRes - 1, -api.MaxRes, -2, -1,
	0, 1, 2, 3, 7, 9, 63, 64, 65,
	api.MaxRes/64 - 1, api.MaxRes / 64, api.MaxRes/64 + 1,
	api.MaxRes/2 - 1, api.MaxRes / 2, api.MaxRes/2 + 1,
	api.MaxRes - 1, api.MaxRes, api.MaxRes + 1, 2 * api.MaxRes,
	1 << 32, 1<<53 - 1, 1 << 53, 1<<53 + 1, math.MaxInt - 1, math.MaxInt,
}

// spots are the four places of a vector: put is a with n there.
var spots = []struct {
	name string
	put  func(a api.Res, n int) api.Res
}{
	{"cpu", func(a api.Res, n int) api.Res { a.Cpu = n; return a }},
	{"mem", func(a api.Res, n int) api.Res { a.Mem = n; return a }},
	{"gpu", func(a api.Res, n int) api.Res { a.Gpu = n; return a }},
	{"lic", func(a api.Res, n int) api.Res { a.Lic = n; return a }},
}

// all is a vector with one number at all places.
func all(n int) api.Res { return api.Res{Cpu: n, Mem: n, Gpu: n, Lic: n} }

func inBounds(n int) bool { return n >= 0 && n <= api.MaxRes }

// wanted is what a sum, a difference or a product of right vectors is answered as, told one number's exact result; the other three are kept.
func wanted(kept api.Res, put func(api.Res, int) api.Res, exact *big.Int) (api.Res, api.Errno) {
	if !exact.IsInt64() || !inBounds(int(exact.Int64())) {
		return api.Res{}, api.ErrOver
	}
	return put(kept, int(exact.Int64())), api.OK
}

func TestP2_1RightAtEachPlace(t *testing.T) {
	for _, s := range spots {
		for _, rest := range []int{0, 5, api.MaxRes} {
			for _, n := range edges {
				a := s.put(all(rest), n)
				if got := Right(a); got != inBounds(n) {
					t.Errorf("Right(%v) = %v", a, got)
				}
			}
		}
	}
	for _, n := range []int{-1, api.MaxRes + 1, math.MinInt, math.MaxInt} {
		if Right(all(n)) {
			t.Errorf("Right of four times %d", n)
		}
	}
}

func TestP2_1FitsAtEachPlace(t *testing.T) {
	for _, s := range spots {
		for _, n := range edges {
			for _, m := range edges {
				for _, c := range []struct {
					a, b int
					want bool
				}{{0, 0, n <= m}, {1, 2, n <= m}, {math.MinInt, math.MaxInt, n <= m}, {2, 1, false}} {
					a, b := s.put(all(c.a), n), s.put(all(c.b), m)
					if got := Fits(a, b); got != c.want {
						t.Errorf("Fits(%v, %v) = %v", a, b, got)
					}
				}
			}
		}
	}
}

func TestP2_1FitsAllFour(t *testing.T) {
	a := api.Res{Cpu: 2, Mem: 3, Gpu: 4, Lic: 5}
	if !Fits(a, a) || !Fits(api.Res{}, a) || Fits(a, api.Res{}) {
		t.Error("itself, or nothing")
	}
	if !Fits(api.Res{Cpu: -4, Mem: -3, Gpu: -2, Lic: -1}, api.Res{Cpu: -1, Mem: -2, Gpu: -2, Lic: -1}) {
		t.Error("below 0")
	}
	if Fits(api.Res{Cpu: 3, Mem: 1}, api.Res{Cpu: 1, Mem: 3}) || Fits(api.Res{Cpu: 1, Mem: 3}, api.Res{Cpu: 3, Mem: 1}) {
		t.Error("neither fits the other one")
	}
}

func TestP2_1LeastAtEachPlace(t *testing.T) {
	for _, s := range spots {
		for _, n := range edges {
			for _, m := range edges {
				a, b := s.put(all(4), n), s.put(all(6), m)
				want := s.put(all(4), min(n, m))
				if got := Least(a, b); got != want {
					t.Errorf("Least(%v, %v) = %v", a, b, got)
				}
				if got := Least(b, a); got != want {
					t.Errorf("Least(%v, %v) = %v", b, a, got)
				}
			}
		}
	}
	got := Least(api.Res{Cpu: 1, Mem: 9, Gpu: -3, Lic: 8}, api.Res{Cpu: 2, Mem: 7, Gpu: -2, Lic: 0})
	if got != (api.Res{Cpu: 1, Mem: 7, Gpu: -3}) {
		t.Errorf("from both: %v", got)
	}
}

func TestP2_2AddAndSubAtEachPlace(t *testing.T) {
	const x, y = 11, 5 // what stands at the other three places
	for _, s := range spots {
		for _, n := range edges {
			for _, m := range edges {
				a, b := s.put(all(x), n), s.put(all(y), m)
				sum, sumErr, diff, diffErr := api.Res{}, api.ErrArg, api.Res{}, api.ErrArg
				if inBounds(n) && inBounds(m) {
					p, q := big.NewInt(int64(n)), big.NewInt(int64(m))
					sum, sumErr = wanted(all(x+y), s.put, new(big.Int).Add(p, q))
					diff, diffErr = wanted(all(x-y), s.put, new(big.Int).Sub(p, q))
				}
				if got, err := Add(a, b); got != sum || err != sumErr {
					t.Errorf("Add(%v, %v) = %v, %d, want %v, %d", a, b, got, err, sum, sumErr)
				}
				if got, err := Sub(a, b); got != diff || err != diffErr {
					t.Errorf("Sub(%v, %v) = %v, %d, want %v, %d", a, b, got, err, diff, diffErr)
				}
			}
		}
	}
}

func TestP2_2AddAndSubCases(t *testing.T) {
	most := all(api.MaxRes)
	a := api.Res{Cpu: 8, Mem: 16, Gpu: 1, Lic: 70}
	b := api.Res{Cpu: 2, Mem: 16, Lic: 69}
	if got, err := Add(a, b); got != (api.Res{Cpu: 10, Mem: 32, Gpu: 1, Lic: 139}) || err != api.OK {
		t.Error("sum", got, err)
	}
	if got, err := Sub(a, b); got != (api.Res{Cpu: 6, Gpu: 1, Lic: 1}) || err != api.OK {
		t.Error("difference", got, err)
	}
	if got, err := Sub(b, a); got != (api.Res{}) || err != api.ErrOver {
		t.Error("below 0", got, err)
	}
	if got, err := Add(most, api.Res{}); got != most || err != api.OK {
		t.Error("the most there is", got, err)
	}
	if got, err := Add(most, most); got != (api.Res{}) || err != api.ErrOver {
		t.Error("twice the most", got, err)
	}
	if got, err := Sub(most, most); got != (api.Res{}) || err != api.OK {
		t.Error("nothing left", got, err)
	}
	if got, err := Sub(api.Res{}, most); got != (api.Res{}) || err != api.ErrOver {
		t.Error("most below 0", got, err)
	}
}

// One that isn't right is told ahead of what runs over, and no sum or difference makes up for it.
func TestP2_2WrongAheadOfOver(t *testing.T) {
	most := all(api.MaxRes)
	for _, s := range spots {
		for _, n := range []int{math.MinInt, -1, api.MaxRes + 1, math.MaxInt} {
			wrong := s.put(all(1), n)
			for _, right := range []api.Res{{}, all(1), most} {
				if got, err := Add(wrong, right); got != (api.Res{}) || err != api.ErrArg {
					t.Errorf("Add(%v, %v) = %v, %d", wrong, right, got, err)
				}
				if got, err := Add(right, wrong); got != (api.Res{}) || err != api.ErrArg {
					t.Errorf("Add(%v, %v) = %v, %d", right, wrong, got, err)
				}
				if got, err := Sub(wrong, right); got != (api.Res{}) || err != api.ErrArg {
					t.Errorf("Sub(%v, %v) = %v, %d", wrong, right, got, err)
				}
				if got, err := Sub(right, wrong); got != (api.Res{}) || err != api.ErrArg {
					t.Errorf("Sub(%v, %v) = %v, %d", right, wrong, got, err)
				}
			}
			if got, err := Sub(wrong, wrong); got != (api.Res{}) || err != api.ErrArg {
				t.Errorf("Sub(%v, itself) = %v, %d", wrong, got, err)
			}
			for _, times := range []int{0, 1, 2, math.MaxInt} {
				if got, err := Times(wrong, times); got != (api.Res{}) || err != api.ErrArg {
					t.Errorf("Times(%v, %d) = %v, %d", wrong, times, got, err)
				}
			}
		}
	}
}

func TestP2_2TimesAtEachPlace(t *testing.T) {
	for _, s := range spots {
		for _, n := range edges {
			for _, times := range edges {
				a := s.put(api.Res{}, n)
				want, wantErr := api.Res{}, api.ErrArg
				if inBounds(n) && times >= 0 {
					want, wantErr = wanted(api.Res{}, s.put, new(big.Int).Mul(big.NewInt(int64(n)), big.NewInt(int64(times))))
				}
				if got, err := Times(a, times); got != want || err != wantErr {
					t.Errorf("Times(%v, %d) = %v, %d, want %v, %d", a, times, got, err, want, wantErr)
				}
			}
		}
	}
}

func TestP2_2TimesCases(t *testing.T) {
	a := api.Res{Cpu: 2, Mem: 16, Gpu: 3, Lic: 5}
	for _, c := range []struct {
		a    api.Res
		n    int
		want api.Res
		err  api.Errno
	}{
		{a, 3, api.Res{Cpu: 6, Mem: 48, Gpu: 9, Lic: 15}, api.OK},
		{a, 1, a, api.OK}, {a, 0, api.Res{}, api.OK}, {a, -1, api.Res{}, api.ErrArg},
		{a, math.MinInt, api.Res{}, api.ErrArg}, {a, math.MaxInt, api.Res{}, api.ErrOver},
		{api.Res{}, math.MaxInt, api.Res{}, api.OK}, {api.Res{}, -1, api.Res{}, api.ErrArg},
		{all(1), api.MaxRes, all(api.MaxRes), api.OK}, {all(1), api.MaxRes + 1, api.Res{}, api.ErrOver},
		{all(api.MaxRes), 1, all(api.MaxRes), api.OK}, {all(api.MaxRes), 2, api.Res{}, api.ErrOver},
		{all(api.MaxRes), api.MaxRes, api.Res{}, api.ErrOver},
		{api.Res{Cpu: 2, Lic: 1 << 19}, 2, api.Res{Cpu: 4, Lic: 1 << 20}, api.OK},
		{api.Res{Cpu: 2, Lic: 1<<19 + 1}, 2, api.Res{}, api.ErrOver},
		{api.Res{Cpu: 2}, 1 << 62, api.Res{}, api.ErrOver}, // 0 or below it, if the product runs round
		{api.Res{Cpu: 4}, 1 << 62, api.Res{}, api.ErrOver},
	} {
		if got, err := Times(c.a, c.n); got != c.want || err != c.err {
			t.Errorf("Times(%v, %d) = %v, %d, want %v, %d", c.a, c.n, got, err, c.want, c.err)
		}
	}
}

func TestP2_3CountCases(t *testing.T) {
	for _, c := range []struct {
		free, need api.Res
		want       int
	}{
		{api.Res{Cpu: 7, Mem: 9}, api.Res{Cpu: 2, Mem: 3}, 3}, // the chapter's example
		{api.Res{Cpu: 7, Mem: 8}, api.Res{Cpu: 2, Mem: 3}, 2},
		{api.Res{Cpu: 5, Mem: 9}, api.Res{Cpu: 2, Mem: 3}, 2},
		{api.Res{Cpu: 1, Mem: 9}, api.Res{Cpu: 2, Mem: 3}, 0},
		{api.Res{Cpu: 7}, api.Res{Cpu: 2, Mem: 3}, 0},
		{api.Res{Gpu: 12, Lic: 9}, api.Res{Gpu: 3, Lic: 3}, 3},
		{api.Res{Gpu: 5, Lic: 9}, api.Res{Gpu: 3, Lic: 3}, 1},
		{all(7), api.Res{}, 0}, {api.Res{}, api.Res{}, 0}, {api.Res{}, all(1), 0},
		{all(1000), all(1), api.MaxMany},
		{all(api.MaxRes), all(api.MaxRes), 1}, {all(api.MaxRes - 1), all(api.MaxRes), 0},
		{all(api.MaxMany - 1), all(1), api.MaxMany - 1},
		{all(api.MaxMany), all(1), api.MaxMany},
		{all(api.MaxMany + 1), all(1), api.MaxMany},
		{api.Res{Cpu: 3, Mem: 5, Gpu: 7, Lic: 9}, api.Res{Lic: 2}, 4},
	} {
		if got := Count(c.free, c.need); got != c.want {
			t.Errorf("Count(%v, %v) = %d, want %d", c.free, c.need, got, c.want)
		}
	}
}

func TestP2_3CountOfWhatIsNotRight(t *testing.T) {
	for _, s := range spots {
		for _, n := range []int{math.MinInt, -1, api.MaxRes + 1, math.MaxInt} {
			if got := Count(s.put(all(9), n), all(1)); got != 0 {
				t.Errorf("%s of %d free: %d", s.name, n, got)
			}
			if got := Count(all(9), s.put(all(1), n)); got != 0 {
				t.Errorf("%s of %d needed: %d", s.name, n, got)
			}
		}
	}
}

// byAdding is Count as its words say it: need is added to itself, as long as it fits.
func byAdding(free, need api.Res) int {
	n := 0
	for sum := need; n < api.MaxMany && Fits(sum, free); n++ {
		sum = api.Res{Cpu: sum.Cpu + need.Cpu, Mem: sum.Mem + need.Mem, Gpu: sum.Gpu + need.Gpu, Lic: sum.Lic + need.Lic}
	}
	return n
}

func TestP2_3CountIsTheGreatest(t *testing.T) {
	for i, s := range spots {
		other := spots[(i+1)%len(spots)]
		for _, free := range edges {
			for _, need := range edges {
				if !inBounds(free) || !inBounds(need) || need == 0 {
					continue
				}
				for _, beside := range []api.Res{{}, all(1), other.put(api.Res{}, 3)} {
					f, n := s.put(all(100), free), s.put(beside, need)
					if got, want := Count(f, n), byAdding(f, n); got != want {
						t.Errorf("Count(%v, %v) = %d, want %d", f, n, got, want)
					}
				}
			}
		}
	}
}
