package units

import (
	"math"
	"math/bits"
	"regexp"
	"slices"
	"strconv"
	"strings"
	"testing"

	"drayage/api"
)

// edges are right numbers at which a digit more begins, or a bound lies, and those beside them.
var edges = []int{0, 1, 2, 9, 10, 11, 99, 100, 101, 1000, 65536, 99999, 100000, 999999, 1000000, api.MaxRes - 1, api.MaxRes}

// wrong are numbers that no right vector has.
var wrong = []int{math.MinInt, math.MinInt + 1, -api.MaxRes, -10, -1, api.MaxRes + 1, 1 << 32, 1<<32 + 1, math.MaxInt}

// spots are the four places of a vector, by their words: put is a with n there.
var spots = []struct {
	word string
	put  func(a api.Res, n int) api.Res
}{
	{"cpu", func(a api.Res, n int) api.Res { a.Cpu = n; return a }},
	{"mem", func(a api.Res, n int) api.Res { a.Mem = n; return a }},
	{"gpu", func(a api.Res, n int) api.Res { a.Gpu = n; return a }},
	{"lic", func(a api.Res, n int) api.Res { a.Lic = n; return a }},
}

// said are vectors with their texts, written by hand.
var said = []struct {
	a    api.Res
	text string
}{
	{api.Res{Cpu: 4, Mem: 16, Lic: 1}, "cpu=4,mem=16,lic=1"}, // the chapter's example
	{api.Res{}, "none"},
	{api.Res{Cpu: 1}, "cpu=1"}, {api.Res{Mem: 2}, "mem=2"}, {api.Res{Gpu: 3}, "gpu=3"}, {api.Res{Lic: 4}, "lic=4"},
	{api.Res{Cpu: 1, Mem: 2}, "cpu=1,mem=2"}, {api.Res{Cpu: 1, Gpu: 3}, "cpu=1,gpu=3"}, {api.Res{Cpu: 1, Lic: 4}, "cpu=1,lic=4"},
	{api.Res{Mem: 2, Gpu: 3}, "mem=2,gpu=3"}, {api.Res{Mem: 2, Lic: 4}, "mem=2,lic=4"}, {api.Res{Gpu: 3, Lic: 4}, "gpu=3,lic=4"},
	{api.Res{Cpu: 1, Mem: 2, Gpu: 3}, "cpu=1,mem=2,gpu=3"}, {api.Res{Cpu: 1, Gpu: 3, Lic: 4}, "cpu=1,gpu=3,lic=4"},
	{api.Res{Mem: 2, Gpu: 3, Lic: 4}, "mem=2,gpu=3,lic=4"},
	{api.Res{Cpu: 1, Mem: 2, Gpu: 3, Lic: 4}, "cpu=1,mem=2,gpu=3,lic=4"},
	{api.Res{Cpu: 5, Mem: 5, Gpu: 5, Lic: 5}, "cpu=5,mem=5,gpu=5,lic=5"},
	{api.Res{Cpu: 10, Mem: 100, Gpu: 1009, Lic: 90807}, "cpu=10,mem=100,gpu=1009,lic=90807"},
	{api.Res{Cpu: 1048576, Mem: 1048575, Gpu: 999999, Lic: 1000000}, "cpu=1048576,mem=1048575,gpu=999999,lic=1000000"},
	{api.Res{Cpu: 1048576, Mem: 1048576, Gpu: 1048576, Lic: 1048576}, "cpu=1048576,mem=1048576,gpu=1048576,lic=1048576"},
	{api.Res{Cpu: 1000000, Lic: 987654}, "cpu=1000000,lic=987654"},
}

// forms are the texts that may be right ones, by which of the four numbers (bits 0 to 3) stand in them.
func forms() map[int]*regexp.Regexp {
	l := map[int]*regexp.Regexp{}
	for set := 1; set < 16; set++ {
		var parts []string
		for i, s := range spots {
			if set>>i&1 == 1 {
				parts = append(parts, s.word+`=([1-9][0-9]*)`)
			}
		}
		l[set] = regexp.MustCompile(`\A` + strings.Join(parts, ",") + `\z`)
	}
	return l
}

var allForms = forms()

// wanted is what s is to be read as: found by holding it against each form that there is.
func wanted(s string) (api.Res, api.Errno) {
	if s == "none" {
		return api.Res{}, api.OK
	}
	for set, form := range allForms {
		m := form.FindStringSubmatch(s)
		if m == nil {
			continue
		}
		a, rest := api.Res{}, set
		for _, digits := range m[1:] {
			n, err := strconv.ParseInt(digits, 10, 64)
			if err != nil || n > api.MaxRes {
				return api.Res{}, api.ErrForm
			}
			a = spots[bits.TrailingZeros(uint(rest))].put(a, int(n))
			rest &= rest - 1
		}
		return a, api.OK
	}
	return api.Res{}, api.ErrForm
}

func checkText(t *testing.T, a api.Res, want string, wantErr api.Errno) {
	t.Helper()
	if got, err := Text(a); got != want || err != wantErr {
		t.Errorf("Text(%v) = %q, %d, want %q, %d", a, got, err, want, wantErr)
	}
}

func checkRead(t *testing.T, s string, want api.Res, wantErr api.Errno) {
	t.Helper()
	if got, err := Read(s); got != want || err != wantErr {
		t.Errorf("Read(%q) = %v, %d, want %v, %d", s, got, err, want, wantErr)
	}
}

func TestP3_1Words(t *testing.T) {
	want := []string{"cpu", "mem", "gpu", "lic"}
	first := Words()
	if !slices.Equal(first, want) {
		t.Fatalf("Words() = %q", first)
	}
	first[0] = "disk"
	if got := Words(); !slices.Equal(got, want) {
		t.Errorf("what was handed out before was changed: Words() = %q", got)
	}
	checkText(t, api.Res{Cpu: 4}, "cpu=4", api.OK)
	checkRead(t, "cpu=4", api.Res{Cpu: 4}, api.OK)
	checkRead(t, "disk=4", api.Res{}, api.ErrForm)
}

func TestP3_1TextCases(t *testing.T) {
	for _, c := range said {
		checkText(t, c.a, c.text, api.OK)
	}
	for _, s := range spots {
		for _, n := range edges[1:] {
			checkText(t, s.put(api.Res{}, n), s.word+"="+strconv.Itoa(n), api.OK)
		}
	}
}

func TestP3_1TextOfWhatIsNotRight(t *testing.T) {
	for _, s := range spots {
		for _, rest := range []api.Res{{}, {Cpu: 4, Mem: 16, Lic: 1}, {Cpu: 1, Mem: 2, Gpu: 3, Lic: 4}} {
			for _, n := range wrong {
				checkText(t, s.put(rest, n), "", api.ErrArg)
			}
		}
	}
	for _, n := range wrong {
		checkText(t, api.Res{Cpu: n, Mem: n, Gpu: n, Lic: n}, "", api.ErrArg)
	}
}

func TestP3_1ReadCases(t *testing.T) {
	for _, c := range said {
		checkRead(t, c.text, c.a, api.OK)
	}
	for _, s := range spots {
		for _, n := range edges[1:] {
			checkRead(t, s.word+"="+strconv.Itoa(n), s.put(api.Res{}, n), api.OK)
		}
	}
}

func TestP3_1ReadOfWhatIsNoText(t *testing.T) {
	for _, s := range []string{
		"", " ", ",", "=", "cpu", "cpu=", "=4", "4", "cpu4", "cpu:4", "cpu==4", "cpu=4=", "cpu=4=5",
		"none,", ",none", "none,none", "none=1", "none=0", "none,cpu=1", "cpu=1,none", "None", "NONE", "non", "nonee", " none", "none ", "none\n", "none\x00",
		"cpu=1,", ",cpu=1", "cpu=1,,mem=2", "cpu=1,mem=2,gpu=3,lic=4,", "cpu=1;mem=2", "cpu=1 mem=2", "cpu=1mem=2", "cpu=1,mem", "cpu=1,mem=", "cpu,mem=2",
		"mem=1,cpu=1", "gpu=1,mem=1", "lic=1,gpu=1", "lic=1,cpu=1", "cpu=1,lic=1,mem=1", "lic=4,gpu=3,mem=2,cpu=1",
		"cpu=1,cpu=2", "cpu=1,cpu=1", "lic=1,lic=1", "cpu=1,mem=2,mem=2", "cpu=1,mem=2,gpu=3,lic=4,cpu=1", "cpu=1,mem=2,gpu=3,lic=4,lic=4", "cpu=1,mem=2,gpu=3,lic=4,disk=5",
		"disk=1", "cpu=1,disk=1", "Cpu=1", "CPU=1", "cp=1", "cpuu=1", "c=1", "cpu,=1", "cpumem=1", "mempu=1",
		" cpu=1", "cpu=1 ", "cpu =1", "cpu= 1", "cpu=1, mem=2", "cpu=1 ,mem=2", "cpu=1\n", "cpu=1\r\n", "\tcpu=1", "cpu=1\x00", "\x00cpu=1", "\ufeffcpu=1",
		"cpu=-1", "cpu=+1", "cpu=-0", "cpu=1.0", "cpu=1e3", "cpu=0x1", "cpu=a", "cpu=1a", "cpu=a1", "cpu=1_0", "cpu=1/", "cpu=:", "cpu=/", "cpu=1:", "cpu=(1)",
		"cpu=\u0661", "cpu=\uff11", "cpu=\u00b2", "cpu=1\u0660", "cpu=\u06f1\u06f2", // digits, but not of these ten
		"cpu=\xff", "cpu=1\xff", "\xffcpu=1", "cpu\xff=1", "cpu=1\xc0\xb1", "cpu=\xf0", "cpu=1\u0301", "\u0441pu=1", "cpu\uff1d1",
	} {
		checkRead(t, s, api.Res{}, api.ErrForm)
	}
}

func TestP3_1ReadOfNumbersOutOfBounds(t *testing.T) {
	right := []string{"cpu=1", "mem=2", "gpu=3", "lic=4"}
	for i, s := range spots {
		for _, digits := range []string{
			"0", "00", "000000000000000000000000", "01", "007", "0001048576", strings.Repeat("0", 300) + "5",
			"1048577", "1048580", "1048600", "1050000", "2000000", "9999999", "10000000", "10485760",
			"2147483648", "4294967296", "4294967297", // 0 and 1, if 32 bits run round
			"9223372036854775807", "9223372036854775808", "18446744073709551616", "18446744073709551617", "18446744073709551620",
			"1" + strings.Repeat("0", 64), "1" + strings.Repeat("0", 63) + "7", strings.Repeat("9", 1<<16),
		} {
			checkRead(t, s.word+"="+digits, api.Res{}, api.ErrForm)
			parts := slices.Clone(right)
			parts[i] = s.word + "=" + digits
			checkRead(t, strings.Join(parts, ","), api.Res{}, api.ErrForm)
		}
	}
}

// Each text is cut short, and has each of its bytes left out, doubled, put in another's place, or another put in ahead of it.
func changedTexts(s string) []string {
	const others = "0123456789=,cpumegliNnone \n\x00\x80\xff/:+-"
	var l []string
	for i := 0; i <= len(s); i++ {
		l = append(l, s[:i], s[i:], s[i:]+s[:i], s[:i]+","+s)
		for _, o := range []byte(others) {
			l = append(l, s[:i]+string([]byte{o})+s[i:])
		}
		if i == len(s) {
			break
		}
		l = append(l, s[:i]+s[i+1:], s[:i+1]+s[i:])
		for _, o := range []byte(others) {
			l = append(l, s[:i]+string([]byte{o})+s[i+1:])
		}
	}
	return l
}

func TestP3_1ReadTellsTextsFromTheirNeighbours(t *testing.T) {
	for _, c := range said {
		for _, s := range changedTexts(c.text) {
			want, wantErr := wanted(s)
			checkRead(t, s, want, wantErr)
		}
	}
}

func TestP3_2ReadAsWritten(t *testing.T) {
	for _, cpu := range edges {
		for _, mem := range edges {
			for _, gpu := range edges {
				for _, lic := range edges {
					a := api.Res{Cpu: cpu, Mem: mem, Gpu: gpu, Lic: lic}
					s, err := Text(a)
					if err != api.OK {
						t.Fatalf("Text(%v): %d", a, err)
					}
					if got, err := Read(s); got != a || err != api.OK {
						t.Fatalf("Read(%q) = %v, %d, want %v", s, got, err, a)
					}
				}
			}
		}
	}
}

func TestP3_2ReadAsWrittenAtEachPlace(t *testing.T) {
	for _, spot := range spots {
		for n := 0; n <= api.MaxRes; n += 1 + n>>12 {
			a := spot.put(api.Res{Mem: 7}, n)
			s, err := Text(a)
			if err != api.OK {
				t.Fatalf("Text(%v): %d", a, err)
			}
			if got, err := Read(s); got != a || err != api.OK {
				t.Fatalf("Read(%q) = %v, %d, want %v", s, got, err, a)
			}
		}
	}
}

func TestP3_2WrittenAsRead(t *testing.T) {
	read := 0
	for _, c := range said {
		for _, s := range append(changedTexts(c.text), c.text) {
			a, err := Read(s)
			if err != api.OK {
				continue
			}
			read++
			checkText(t, a, s, api.OK)
		}
	}
	if read < 1000 {
		t.Errorf("of all these texts only %d were read", read)
	}
}
