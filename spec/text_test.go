package spec

import (
	"math/rand"
	"regexp"
	"slices"
	"strconv"
	"strings"
	"testing"

	"drayage/api"
	"drayage/units"
)

const smallText = `node cpu=4,mem=8,lic=1
node cpu=8,mem=8,gpu=1
part 0 1
part 1
users 3
queue 0 8 4 3 1
queue 1 4 2 2 5 0 1
weights 1 2 10 3
decay 4
mode easy
jobs 12
ids 100
versions 50
linger 5
keep 4
in 3
out 6
cache 4
`

const leastText = `node none
part 0
users 1
queue 0 1 1 1 0
weights 0 0 0 0
decay 1
mode easy
jobs 1
ids 1
versions 1
linger 0
keep 1
in 1
out 1
cache 0
`

// largestText is that of the largest set-up, put together of what is said by hand.
func largestText() string {
	return strings.Repeat("node cpu=1048576,mem=1048576,gpu=1048576,lic=1048576\n", 16) +
		strings.Repeat("part 0 1 2 3 4 5 6 7 8 9 10 11 12 13 14 15\n", 8) +
		"users 8\n" +
		strings.Repeat("queue 7 256 256 256 100 0 1 2 3 4 5 6 7\n", 8) +
		"weights 1000 1000 1000 1000\ndecay 16\nmode conservative\njobs 256\nids 1048576\nversions 65536\nlinger 65536\nkeep 16\nin 8\nout 16\ncache 16\n"
}

// form is that of all texts; of a number it takes at most nine digits, as more of them are never right.
var form = regexp.MustCompile(strings.ReplaceAll(`\A((?:node [^ \n]+\n)+)((?:part(?: N)+\n)+)users (N)\n((?:queue N N N N N(?: N)*\n)+)`+
	`weights (N) (N) (N) (N)\ndecay (N)\nmode (easy|conservative)\njobs (N)\nids (N)\nversions (N)\nlinger (N)\nkeep (N)\nin (N)\nout (N)\ncache (N)\n\z`,
	"N", "(?:0|[1-9][0-9]{0,8})"))

// digits are the numbers of a line that has the form of one.
func digits(line string) []int {
	var l []int
	for _, word := range strings.Fields(line)[1:] {
		n, err := strconv.Atoi(word)
		if err != nil {
			panic(word)
		}
		l = append(l, n)
	}
	return l
}

// wanted is what a text is to be read as: found by holding all of it against one form.
func wanted(text string) (api.Spec, api.Errno) {
	m := form.FindStringSubmatch(text)
	if m == nil {
		return api.Spec{}, api.ErrForm
	}
	var s api.Spec
	for line := range strings.Lines(m[1]) {
		node, err := units.Read(strings.TrimPrefix(strings.TrimSuffix(line, "\n"), "node "))
		if err != api.OK {
			return api.Spec{}, api.ErrForm
		}
		s.Nodes = append(s.Nodes, node)
	}
	for line := range strings.Lines(m[2]) {
		s.Parts = append(s.Parts, digits(line))
	}
	for line := range strings.Lines(m[4]) {
		l := digits(line)
		s.Queues = append(s.Queues, api.Queue{Part: l[0], MaxJobs: l[1], MaxRun: l[2], MaxUser: l[3], Qos: l[4], Users: l[5:]})
	}
	s.Users = digits("users " + m[3])[0]
	l := digits(strings.Join(append([]string{"rest"}, slices.Concat(m[5:10], m[11:])...), " "))
	s.Weights = api.Weights{Age: l[0], Size: l[1], Qos: l[2], Share: l[3]}
	s.Decay, s.Jobs, s.Ids, s.Versions, s.Linger, s.Keep, s.In, s.Out, s.Cache = l[4], l[5], l[6], l[7], l[8], l[9], l[10], l[11], l[12]
	s.Mode = map[string]int{"easy": api.Easy, "conservative": api.Conservative}[m[10]]
	if !Right(s) {
		return api.Spec{}, api.ErrForm
	}
	return s, api.OK
}

func checkText(t *testing.T, s api.Spec, want string, wantErr api.Errno) {
	t.Helper()
	before := clone(s)
	if got, err := Text(s); got != want || err != wantErr {
		t.Errorf("Text(%v) = %q, %d, want %q, %d", s, got, err, want, wantErr)
	}
	if !same(s, before) {
		t.Errorf("%v was changed to %v", before, s)
	}
}

func checkRead(t *testing.T, text string, want api.Spec, wantErr api.Errno) {
	t.Helper()
	if got, err := Read(text); !same(got, want) || err != wantErr {
		t.Errorf("Read(%q) = %v, %d, want %v, %d", text, got, err, want, wantErr)
	}
}

func TestP7_4TextCases(t *testing.T) {
	checkText(t, small(), smallText, api.OK)
	checkText(t, Small(), smallText, api.OK)
	checkText(t, least(), leastText, api.OK)
	checkText(t, largest(), largestText(), api.OK)
	s := small()
	s.Mode = api.Conservative
	checkText(t, s, strings.Replace(smallText, "mode easy\n", "mode conservative\n", 1), api.OK)
	s = small()
	s.Queues[0].Users, s.Queues[1].Users = []int{2}, []int{}
	checkText(t, s, strings.NewReplacer("queue 0 8 4 3 1\n", "queue 0 8 4 3 1 2\n", "queue 1 4 2 2 5 0 1\n", "queue 1 4 2 2 5\n").Replace(smallText), api.OK)
}

func TestP7_4TextOfWhatIsNotRight(t *testing.T) {
	for _, s := range wrongOnes() {
		checkText(t, s, "", api.ErrArg)
	}
	for _, c := range spots {
		for _, n := range append([]int{c.low - 1, c.high + 1}, far...) {
			s := small()
			*c.at(&s) = n
			checkText(t, s, "", api.ErrArg)
		}
	}
}

func TestP7_4ReadCases(t *testing.T) {
	checkRead(t, smallText, small(), api.OK)
	checkRead(t, leastText, least(), api.OK)
	checkRead(t, largestText(), largest(), api.OK)
	s := small()
	s.Mode = api.Conservative
	checkRead(t, strings.Replace(smallText, "easy", "conservative", 1), s, api.OK)
}

func TestP7_4ReadSharesNothing(t *testing.T) {
	one, _ := Read(smallText)
	two, _ := Read(smallText)
	for _, l := range [][]int{one.Parts[0], one.Parts[1], one.Queues[0].Users, one.Queues[1].Users} {
		_ = append(l, 99)
		if len(l) > 0 {
			l[0] = 99
		}
	}
	one.Nodes[0].Cpu, one.Queues[1].Qos = 99, 99
	if !same(two, small()) {
		t.Errorf("what was read by itself was changed to %v", two)
	}
	checkRead(t, smallText, small(), api.OK)
}

func TestP7_4ReadOfNumbersOutOfBounds(t *testing.T) {
	for _, c := range []struct{ from, low, high, beyond, below string }{
		{"node cpu=4,mem=8,lic=1", "node mem=8,lic=1", "node cpu=1048576,mem=8,lic=1", "node cpu=1048577,mem=8,lic=1", "node cpu=0,mem=8,lic=1"},
		{"part 0 1", "part 0", "part 0 1", "part 0 1 2", "part"},
		{"part 1\n", "part 0\n", "part 1\n", "part 2\n", "part -1\n"},
		{"users 3", "users 2", "users 8", "users 9", "users 1"},
		{"queue 0 8", "queue 0 1", "queue 1 256", "queue 2 8", "queue -1 8"},
		{"queue 0 8", "queue 0 1", "queue 0 256", "queue 0 257", "queue 0 0"},
		{"4 3 1\n", "1 3 1\n", "256 3 1\n", "257 3 1\n", "0 3 1\n"},
		{"4 3 1\n", "4 1 1\n", "4 256 1\n", "4 257 1\n", "4 0 1\n"},
		{"4 3 1\n", "4 3 0\n", "4 3 100\n", "4 3 101\n", "4 3 -1\n"},
		{"5 0 1\n", "5 0\n", "5 0 1 2\n", "5 0 1 3\n", "5 -1 1\n"},
		{"weights 1", "weights 0", "weights 1000", "weights 1001", "weights -1"},
		{"1 2 10 3", "1 0 10 3", "1 1000 10 3", "1 1001 10 3", "1 -2 10 3"},
		{"1 2 10 3", "1 2 0 3", "1 2 1000 3", "1 2 1001 3", "1 2 -10 3"},
		{"2 10 3", "2 10 0", "2 10 1000", "2 10 1001", "2 10 -3"},
		{"decay 4", "decay 1", "decay 16", "decay 17", "decay 0"},
		{"jobs 12", "jobs 1", "jobs 256", "jobs 257", "jobs 0"},
		{"ids 100", "ids 1", "ids 1048576", "ids 1048577", "ids 0"},
		{"versions 50", "versions 1", "versions 65536", "versions 65537", "versions 0"},
		{"linger 5", "linger 0", "linger 65536", "linger 65537", "linger -1"},
		{"keep 4", "keep 1", "keep 16", "keep 17", "keep 0"},
		{"in 3", "in 1", "in 8", "in 9", "in 0"},
		{"out 6", "out 1", "out 16", "out 17", "out 0"},
		{"cache 4", "cache 0", "cache 16", "cache 17", "cache -1"},
	} {
		for _, to := range []string{c.low, c.high} {
			text := strings.Replace(smallText, c.from, to, 1)
			s, err := Read(text)
			if err != api.OK {
				t.Errorf("%q instead of %q: %d", to, c.from, err)
			}
			checkText(t, s, text, api.OK)
		}
		for _, to := range []string{c.beyond, c.below} {
			checkRead(t, strings.Replace(smallText, c.from, to, 1), api.Spec{}, api.ErrForm)
		}
	}
}

func TestP7_4ReadOfNumbersWrittenOtherwise(t *testing.T) {
	for _, c := range []string{"decay 4", "keep 4", "cache 4", "queue 0 8 4", "node cpu=4", "queue 1 4"} {
		before := strings.TrimSuffix(c, "4")
		for _, n := range []string{"04", "004", "+4", "-4", "4.0", "4e0", "0x4", "0b100", "0o4", "4_", "_4", "4 ", " 4", "\t4", "4\t", "4\r", "\u0664", "\uff14", "4\x00", "4,", "(4)", "4294967300", "18446744073709551620" /* 4, if bits run round */, strings.Repeat("0", 100) + "4", "", "four"} {
			text := strings.Replace(smallText, c, before+n, 1)
			if text == smallText {
				t.Fatal(c)
			}
			checkRead(t, text, api.Spec{}, api.ErrForm)
		}
	}
	text := strings.Replace(smallText, "part 0 1\n", "part -0 1\n", 1)
	checkRead(t, text, api.Spec{}, api.ErrForm)
}

func TestP7_4ReadOfLinesInOtherPlaces(t *testing.T) {
	lines := slices.Collect(strings.Lines(smallText))
	for i, line := range lines {
		without := slices.Delete(slices.Clone(lines), i, i+1)
		for j := range len(without) + 1 { // the line left out, put elsewhere, and standing there too
			for _, l := range [][]string{without, slices.Insert(slices.Clone(without), j, line), slices.Insert(slices.Clone(lines), j, line)} {
				text := strings.Join(l, "")
				want, err := wanted(text)
				checkRead(t, text, want, err)
			}
		}
		for _, rest := range []string{"", "\n", " \n", line[:len(line)-1] + " \n", " " + line, line + "\n", "\n" + line, strings.Replace(line, " ", "  ", 1), strings.Replace(line, " ", "\t", 1), strings.Replace(line, " ", "", 1), strings.Replace(line, "\n", "\r\n", 1), strings.Replace(line, "\n", " 0\n", 1), strings.ToUpper(line), strings.Fields(line)[0] + "\n", strings.Fields(line)[0] + " \n", "nodes 1\n", "mode slow\n", "mode 1\n", "mode easy conservative\n", "# " + line} {
			text := strings.Join(slices.Replace(slices.Clone(lines), i, i+1, rest), "")
			want, err := wanted(text)
			checkRead(t, text, want, err)
		}
	}
}

func TestP7_4ReadOfWhatIsNoText(t *testing.T) {
	for _, text := range []string{
		"", "\n", " ", "\x00", "\xff", "node", "node none", "node none\n", "mode easy\n", "users 3\n", "none", "\n\n\n",
		smallText + "\n", smallText + " ", smallText + "\x00", smallText + smallText, "\n" + smallText, " " + smallText, "\ufeff" + smallText,
		strings.TrimSuffix(smallText, "\n"), strings.ReplaceAll(smallText, "\n", "\r\n"), strings.ReplaceAll(smallText, "\n", " "), strings.ToUpper(smallText),
		smallText + "cache 4\n", smallText + "more 4\n", "# a remark\n" + smallText,
		strings.Repeat("node none\n", 1<<16), strings.Repeat(smallText, 1<<12), strings.Repeat("\n", 1<<20), strings.Repeat("part 0 1\n", 1<<16),
		strings.Replace(smallText, "part 0 1\n", "part 0 1"+strings.Repeat(" 1", 1<<20)+"\n", 1),
		strings.Replace(smallText, "ids 100\n", "ids 1"+strings.Repeat("0", 1<<20)+"\n", 1),
		strings.Replace(largestText(), "node cpu=", "node none\nnode cpu=", 1), strings.Replace(largestText(), "part 0", "part 0\npart 0", 1), strings.Replace(largestText(), "queue 7", "queue 0 1 1 1 0\nqueue 7", 1),
	} {
		checkRead(t, text, api.Spec{}, api.ErrForm)
	}
}

// changedTexts are a text cut short, and with each of its bytes left out, doubled, replaced by another, or with another ahead of it.
func changedTexts(s string) []string {
	const others = "0123456789=, \n\r\x00\xff-+nmeo"
	var l []string
	for i := 0; i <= len(s); i++ {
		l = append(l, s[:i], s[i:])
		for _, o := range []byte(others) {
			l = append(l, s[:i]+string([]byte{o})+s[i:])
		}
		if i == len(s) {
			break
		}
		l = append(l, s[:i]+s[i+1:], s[:i+1]+s[i:])
		for _, o := range []byte(others) {
			l = append(l, s[:i]+string([]byte{o})+s[i+1:])
		}
	}
	return l
}

func TestP7_4ReadTellsTextsFromTheirNeighbours(t *testing.T) {
	read := 0
	for _, text := range append(changedTexts(smallText), changedTexts(leastText)...) {
		want, wantErr := wanted(text)
		checkRead(t, text, want, wantErr)
		if wantErr == api.OK {
			read++
			checkText(t, want, text, api.OK)
		}
	}
	if read < 100 {
		t.Errorf("of all these texts only %d are to be read", read)
	}
}

func TestP7_4ReadAsWritten(t *testing.T) {
	r := rand.New(rand.NewSource(74))
	for range 2000 {
		s := drawn(r)
		text, err := Text(s)
		if err != api.OK {
			t.Fatalf("Text(%v): %d", s, err)
		}
		checkRead(t, text, s, api.OK)
		if want, err := wanted(text); err != api.OK || !same(want, s) {
			t.Fatalf("%q has not the form of a text: it says %v, not %v", text, want, s)
		}
	}
}
