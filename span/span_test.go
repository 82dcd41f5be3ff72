package span

import (
	"fmt"
	"math"
	"regexp"
	"strconv"
	"strings"
	"testing"

	"drayage/api"
)

// said are lengths with their parts and texts, written by hand.
var said = []struct {
	n, hours, minutes, rest int
	text                    string
}{
	{3723, 1, 2, 3, "1:02:03"}, // the chapter's example
	{0, 0, 0, 0, "0:00:00"}, {1, 0, 0, 1, "0:00:01"}, {9, 0, 0, 9, "0:00:09"}, {10, 0, 0, 10, "0:00:10"}, {11, 0, 0, 11, "0:00:11"},
	{59, 0, 0, 59, "0:00:59"}, {60, 0, 1, 0, "0:01:00"}, {61, 0, 1, 1, "0:01:01"}, {119, 0, 1, 59, "0:01:59"}, {120, 0, 2, 0, "0:02:00"},
	{599, 0, 9, 59, "0:09:59"}, {600, 0, 10, 0, "0:10:00"}, {601, 0, 10, 1, "0:10:01"}, {1234, 0, 20, 34, "0:20:34"},
	{3599, 0, 59, 59, "0:59:59"}, {3600, 1, 0, 0, "1:00:00"}, {3601, 1, 0, 1, "1:00:01"}, {3660, 1, 1, 0, "1:01:00"}, {3661, 1, 1, 1, "1:01:01"},
	{7199, 1, 59, 59, "1:59:59"}, {7200, 2, 0, 0, "2:00:00"}, {12345, 3, 25, 45, "3:25:45"},
	{35999, 9, 59, 59, "9:59:59"}, {36000, 10, 0, 0, "10:00:00"}, {36001, 10, 0, 1, "10:00:01"}, {45296, 12, 34, 56, "12:34:56"},
	{64799, 17, 59, 59, "17:59:59"}, {64800, 18, 0, 0, "18:00:00"}, {65535, 18, 12, 15, "18:12:15"}, {65536, 18, 12, 16, "18:12:16"},
}

// wrong are numbers that are no lengths: those that 16 or 32 bits would take for lengths are among them.
var wrong = []int{
	math.MinInt, math.MinInt + 1, -1 << 32, -1<<32 + 1, -65537, -65536, -65535, -3723, -3600, -60, -59, -1,
	65537, 65538, 65595, 65596, 69259, 131072, 1 << 31, 1<<31 + 1, 1 << 32, 1<<32 + 1, 1<<32 + 3723, math.MaxInt - 1, math.MaxInt,
}

var form = regexp.MustCompile(`\A(0|[1-9][0-9]*):([0-5][0-9]):([0-5][0-9])\z`)

// wanted is what s is to be read as: found by holding it against the form that all texts have.
func wanted(s string) (int, api.Errno) {
	m := form.FindStringSubmatch(s)
	if m == nil || len(m[1]) > 2 {
		return 0, api.ErrForm
	}
	n := 0
	for _, digits := range m[1:] {
		part, err := strconv.Atoi(digits)
		if err != nil {
			return 0, api.ErrForm
		}
		n = 60*n + part
	}
	if n > api.MaxWall {
		return 0, api.ErrForm
	}
	return n, api.OK
}

func checkParts(t *testing.T, n, hours, minutes, rest int) {
	t.Helper()
	if h, m, r := Parts(n); h != hours || m != minutes || r != rest {
		t.Errorf("Parts(%d) = %d, %d, %d, want %d, %d, %d", n, h, m, r, hours, minutes, rest)
	}
}

func checkText(t *testing.T, n int, want string, wantErr api.Errno) {
	t.Helper()
	if got, err := Text(n); got != want || err != wantErr {
		t.Errorf("Text(%d) = %q, %d, want %q, %d", n, got, err, want, wantErr)
	}
}

func checkRead(t *testing.T, s string, want int, wantErr api.Errno) {
	t.Helper()
	if got, err := Read(s); got != want || err != wantErr {
		t.Errorf("Read(%q) = %d, %d, want %d, %d", s, got, err, want, wantErr)
	}
}

func TestP4_1PartsCases(t *testing.T) {
	for _, c := range said {
		checkParts(t, c.n, c.hours, c.minutes, c.rest)
	}
}

func TestP4_1PartsBeyondLengths(t *testing.T) {
	for _, c := range [][4]int{
		{65537, 18, 12, 17}, {65596, 18, 13, 16}, {86399, 23, 59, 59}, {86400, 24, 0, 0}, {360000, 100, 0, 0}, {359999, 99, 59, 59},
		{1 << 31, 596523, 14, 8}, {1<<31 - 1, 596523, 14, 7}, {1 << 32, 1193046, 28, 16}, {api.MaxTime, 305419896, 36, 16},
		{math.MaxInt, 2562047788015215, 30, 7}, {math.MaxInt - 1, 2562047788015215, 30, 6}, {math.MaxInt - 7, 2562047788015215, 30, 0},
	} {
		checkParts(t, c[0], c[1], c[2], c[3])
	}
}

func TestP4_1PartsBelow0(t *testing.T) {
	for _, n := range wrong {
		if n < 0 {
			checkParts(t, n, 0, 0, 0)
		}
	}
}

func TestP4_1PartsCountOn(t *testing.T) {
	hours, minutes, rest := 0, 0, 0
	for n := 0; n <= 3*api.MaxWall; n++ {
		checkParts(t, n, hours, minutes, rest)
		if rest++; rest == 60 {
			minutes, rest = minutes+1, 0
		}
		if minutes == 60 {
			hours, minutes = hours+1, 0
		}
	}
}

func TestP4_1TextCases(t *testing.T) {
	for _, c := range said {
		checkText(t, c.n, c.text, api.OK)
	}
}

func TestP4_1TextOfEachLength(t *testing.T) {
	for n := 0; n <= api.MaxWall; n++ {
		checkText(t, n, fmt.Sprintf("%d:%02d:%02d", n/3600, n/60%60, n%60), api.OK)
	}
}

func TestP4_1TextOfNoLength(t *testing.T) {
	for _, n := range wrong {
		checkText(t, n, "", api.ErrArg)
	}
}

func TestP4_1ReadCases(t *testing.T) {
	for _, c := range said {
		checkRead(t, c.text, c.n, api.OK)
	}
}

func TestP4_1ReadOfWhatIsNoText(t *testing.T) {
	for _, s := range []string{
		"", " ", ":", "::", ":::", "0", "00", "0:00", "00:00", "3723", "65536", "1:02", "02:03", ":02:03", "1::03", "1:02:", "::03", "1::", ":02:", "1:02:03:", ":1:02:03", "1:02:03:04", "0:0:0:0",
		"0:0:0", "0:0:00", "0:00:0", "1:2:3", "1:2:03", "1:02:3", "1:002:03", "1:02:003", "1:2:003", "1:020:3", "000:00:00", "00:00:00", "01:02:03", "001:02:03", "018:12:16", "010:00:00", "1:0203", "102:03", "10203", "1:02:0 3",
		"-0:00:00", "+0:00:00", "-1:00:00", "+1:02:03", "0:-1:00", "0:+1:00", "0:00:-1", "0:00:+1", "0:-0:00", "0:00:-0", "1:02:-3", "2:-58:03", "1:03:-57",
		" 1:02:03", "1:02:03 ", "1 :02:03", "1: 2:03", "1:02: 3", "1: 02:03", "1:02:03\n", "1:02:03\r\n", "\t1:02:03", "1:02:03\x00", "\x001:02:03", "\ufeff1:02:03",
		"1.02.03", "1,02,03", "1:02.03", "1;02;03", "1h02m03s", "1h", "3723s", "1:02:03s", "a:00:00", "0:a0:00", "0:0a:00", "0:00:a0", "0:00:0a", "none", "1_0:00:00", "0x1:00:00", "1e1:00:00", "0:1_0:00", "0:0x:00", "1:02:03.0",
		"\u0661:02:03", "1:\uff10\uff12:03", "1:02:0\u00b3", "1\uff1a02\uff1a03", "1:0\u0662:03", "1:02:\u0663", // digits and colons, but not of these
		"\xff:00:00", "1\xff:02:03", "1:02:03\xff", "1:\x80\x80:03", "1:02:\xc0\xb0\xc0\xb3", "/:00:00", "0:/0:00", "0:0::00", "0:00:0:", "0:00:/0",
	} {
		checkRead(t, s, 0, api.ErrForm)
	}
}

func TestP4_1ReadOfPartsOutOfBounds(t *testing.T) {
	for _, s := range []string{
		"0:60:00", "0:61:00", "0:99:00", "0:00:60", "0:00:61", "0:00:99", "0:59:60", "0:60:59", "1:60:00", "9:99:99", "0:100:00", "0:00:100", "0:00:3723", "0:62:03", "1:01:63",
		"18:12:17", "18:12:18", "18:12:59", "18:12:60", "18:13:00", "18:13:16", "18:20:00", "18:59:59", "19:00:00", "20:00:00", "28:12:16", "81:21:61", "99:59:59", "100:00:00", "118:12:16", "182:12:16", "65536:00:00", "65537:00:00", "0:65536:00", "0:00:65536", "0:00:65535",
		"596523:14:08", "1193046:28:16", "1193046:28:17", // 2^31, 2^32, and 1 more
		"2147483648:00:00", "4294967296:00:00", "4294967297:02:03", "0:4294967296:00", "0:00:4294967296", "0:00:4294968000",
		"5124095576030431:00:16", "5124095576030431:00:17", "2562047788015215:30:08", // 2^64, 1 more, and 2^63
		"9223372036854775807:00:00", "9223372036854775808:00:00", "18446744073709551616:00:00", "18446744073709551617:02:03", "0:18446744073709551616:00", "0:00:18446744073709551616", "0:00:18446744073709551619",
	} {
		checkRead(t, s, 0, api.ErrForm)
	}
}

func TestP4_1ReadOfLongTexts(t *testing.T) {
	for _, piece := range []string{"0", "1", "9", ":", "00", ":00", "1:02:03", " ", "-", "+", "\x00", "\xff"} {
		long := strings.Repeat(piece, 1<<16)
		for _, s := range []string{long, long + "1:02:03", "1:02:03" + long, long + ":02:03", "1:" + long + ":03", "1:02:" + long, "1" + long + ":02:03", "1:02" + long + ":03"} {
			checkRead(t, s, 0, api.ErrForm)
		}
	}
}

func TestP4_1ReadOfEachTextOfTheForm(t *testing.T) {
	for hours := range 31 {
		for minutes := range 100 {
			for rest := range 100 {
				s := fmt.Sprintf("%d:%02d:%02d", hours, minutes, rest)
				want, wantErr := wanted(s)
				checkRead(t, s, want, wantErr)
			}
		}
	}
}

// changedTexts are s cut short, and with each of its bytes left out, doubled, another in its place, or another ahead of it.
func changedTexts(s string) []string {
	const others = "0123456789:-+. _\n\x00\x80\xff/;asx"
	var l []string
	for i := 0; i <= len(s); i++ {
		l = append(l, s[:i], s[i:], s[i:]+s[:i], s[:i]+":"+s)
		for _, o := range []byte(others) {
			l = append(l, s[:i]+string([]byte{o})+s[i:])
		}
		if i == len(s) {
			break
		}
		l = append(l, s[:i]+s[i+1:], s[:i+1]+s[i:])
		for _, o := range []byte(others) {
			l = append(l, s[:i]+string([]byte{o})+s[i+1:])
		}
	}
	return l
}

func TestP4_1ReadTellsTextsFromTheirNeighbours(t *testing.T) {
	for _, c := range said {
		for _, s := range changedTexts(c.text) {
			want, wantErr := wanted(s)
			checkRead(t, s, want, wantErr)
		}
	}
}

func TestP4_2ReadAsWritten(t *testing.T) {
	for n := 0; n <= api.MaxWall; n++ {
		s, err := Text(n)
		if err != api.OK {
			t.Fatalf("Text(%d): %d", n, err)
		}
		checkRead(t, s, n, api.OK)
	}
}

func TestP4_2WrittenAsRead(t *testing.T) {
	read := 0
	for _, c := range said {
		for _, s := range append(changedTexts(c.text), c.text) {
			n, err := Read(s)
			if err != api.OK {
				continue
			}
			read++
			checkText(t, n, s, api.OK)
		}
	}
	if read < 1000 {
		t.Errorf("of all these texts only %d were read", read)
	}
}
