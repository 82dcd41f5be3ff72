package spec

import (
	"strconv"
	"strings"

	"drayage/api"
	"drayage/units"
)

// longest is no shorter than any right set-up's text: a longer one is not even read.
const longest = 1 << 11

const (
	easy         = "easy"
	conservative = "conservative"
)

// line is a kind of lines: the word that they begin with, what stands behind it in each, and how that is put into a set-up.
type line struct {
	word string
	say  func(s *api.Spec) []string
	take func(s *api.Spec, said string) bool
}

// lines are in the order in which a text has them.
func lines() []line {
	return []line{
		{"node", sayNodes, takeNode},
		{"part", sayParts, takePart},
		number("users", func(s *api.Spec) *int { return &s.Users }),
		{"queue", sayQueues, takeQueue},
		{"weights", sayWeights, takeWeights},
		number("decay", func(s *api.Spec) *int { return &s.Decay }),
		{"mode", sayMode, takeMode},
		number("jobs", func(s *api.Spec) *int { return &s.Jobs }),
		number("ids", func(s *api.Spec) *int { return &s.Ids }),
		number("versions", func(s *api.Spec) *int { return &s.Versions }),
		number("linger", func(s *api.Spec) *int { return &s.Linger }),
		number("keep", func(s *api.Spec) *int { return &s.Keep }),
		number("in", func(s *api.Spec) *int { return &s.In }),
		number("out", func(s *api.Spec) *int { return &s.Out }),
		number("cache", func(s *api.Spec) *int { return &s.Cache }),
	}
}

// number is the line of a number that stands at a place of a set-up.
func number(word string, at func(s *api.Spec) *int) line {
	return line{
		word: word,
		say:  func(s *api.Spec) []string { return []string{joined(*at(s))} },
		take: func(s *api.Spec, said string) bool {
			l, ok := parted(said)
			if !ok || len(l) != 1 {
				return false
			}
			*at(s) = l[0]
			return true
		},
	}
}

// Text is a set-up's text.
func Text(s api.Spec) (string, api.Errno) {
	if !Right(s) {
		return "", api.ErrArg
	}
	var b strings.Builder
	for _, l := range lines() {
		for _, said := range l.say(&s) {
			b.WriteString(l.word + " " + said + "\n")
		}
	}
	return b.String(), api.OK
}

// Read is the set-up of a text. A line is taken as whatever it may mean: whether it stands in its place, and says that as it must, is told by writing all of it again.
func Read(text string) (api.Spec, api.Errno) {
	if len(text) > longest {
		return api.Spec{}, api.ErrForm
	}
	var s api.Spec
	for l := range strings.Lines(text) {
		if !take(&s, strings.TrimSuffix(l, "\n")) {
			return api.Spec{}, api.ErrForm
		}
	}
	if again, err := Text(s); err != api.OK || again != text {
		return api.Spec{}, api.ErrForm
	}
	return s, api.OK
}

// take puts what a line says into a set-up, and is whether it may.
func take(s *api.Spec, text string) bool {
	word, said, _ := strings.Cut(text, " ")
	for _, l := range lines() {
		if l.word == word {
			return l.take(s, said)
		}
	}
	return false
}

// joined is numbers with one blank between.
func joined(numbers ...int) string {
	var b []byte
	for i, n := range numbers {
		if i > 0 {
			b = append(b, ' ')
		}
		b = strconv.AppendInt(b, int64(n), 10)
	}
	return string(b)
}

// parted is the numbers of which joined makes a text.
func parted(text string) ([]int, bool) {
	var l []int
	for word := range strings.SplitSeq(text, " ") {
		n, err := strconv.Atoi(word)
		if err != nil {
			return nil, false
		}
		l = append(l, n)
	}
	return l, true
}

func sayNodes(s *api.Spec) []string {
	var l []string
	for _, node := range s.Nodes {
		text, _ := units.Text(node) // a right set-up's vectors have a text each
		l = append(l, text)
	}
	return l
}

func takeNode(s *api.Spec, said string) bool {
	node, err := units.Read(said)
	s.Nodes = append(s.Nodes, node)
	return err == api.OK
}

func sayParts(s *api.Spec) []string {
	var l []string
	for _, part := range s.Parts {
		l = append(l, joined(part...))
	}
	return l
}

func takePart(s *api.Spec, said string) bool {
	part, ok := parted(said)
	s.Parts = append(s.Parts, part)
	return ok
}

func sayQueues(s *api.Spec) []string {
	var l []string
	for _, q := range s.Queues {
		own := []int{q.Part, q.MaxJobs, q.MaxRun, q.MaxUser, q.Qos}
		l = append(l, joined(append(own, q.Users...)...))
	}
	return l
}

func takeQueue(s *api.Spec, said string) bool {
	l, ok := parted(said)
	if !ok || len(l) < 5 {
		return false
	}
	s.Queues = append(s.Queues, api.Queue{
		Part: l[0], MaxJobs: l[1], MaxRun: l[2], MaxUser: l[3], Qos: l[4],
		Users: append([]int(nil), l[5:]...),
	})
	return true
}

func sayWeights(s *api.Spec) []string {
	w := s.Weights
	return []string{joined(w.Age, w.Size, w.Qos, w.Share)}
}

func takeWeights(s *api.Spec, said string) bool {
	l, ok := parted(said)
	if !ok || len(l) != 4 {
		return false
	}
	s.Weights = api.Weights{Age: l[0], Size: l[1], Qos: l[2], Share: l[3]}
	return true
}

func sayMode(s *api.Spec) []string {
	if s.Mode == api.Easy {
		return []string{easy}
	}
	return []string{conservative}
}

func takeMode(s *api.Spec, said string) bool {
	switch said {
	case easy:
		s.Mode = api.Easy
	case conservative:
		s.Mode = api.Conservative
	default:
		return false
	}
	return true
}
