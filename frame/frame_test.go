package frame

import (
	"bytes"
	"encoding/binary"
	"math/rand"
	"slices"
	"testing"

	"drayage/api"
)

// said are loads with their frames, written by hand.
var said = []struct {
	load, frame []byte
}{
	{[]byte{7}, []byte{0, 1, 7, 23}}, // the chapter's example
	{[]byte{0}, []byte{0, 1, 0, 2}}, {[]byte{1}, []byte{0, 1, 1, 5}}, {[]byte{2}, []byte{0, 1, 2, 8}},
	{[]byte{82}, []byte{0, 1, 82, 248}}, {[]byte{83}, []byte{0, 1, 83, 0}}, {[]byte{84}, []byte{0, 1, 84, 3}}, // around 251
	{[]byte{166}, []byte{0, 1, 166, 249}}, {[]byte{167}, []byte{0, 1, 167, 1}}, // around twice 251
	{[]byte{250}, []byte{0, 1, 250, 250}}, {[]byte{251}, []byte{0, 1, 251, 2}}, {[]byte{255}, []byte{0, 1, 255, 14}},
	{[]byte{1, 2}, []byte{0, 2, 1, 2, 15}}, {[]byte{2, 1}, []byte{0, 2, 2, 1, 14}}, {[]byte{0, 0}, []byte{0, 2, 0, 0, 4}}, {[]byte{255, 255}, []byte{0, 2, 255, 255, 32}},
	{[]byte("abc"), []byte{0, 3, 97, 98, 99, 180}}, {[]byte{0, 1, 7, 23}, []byte{0, 4, 0, 1, 7, 23, 185}}, // a frame is a load, too
	{make([]byte, 100), append(append([]byte{0, 100}, make([]byte, 100)...), 200)},
	{make([]byte, 239), append(append([]byte{0, 239}, make([]byte, 239)...), 227)},
	{make([]byte, 240), append(append([]byte{0, 240}, make([]byte, 240)...), 229)},
	{append(make([]byte, 239), 1), append(append([]byte{0, 240}, make([]byte, 239)...), 1, 220)},
	{append([]byte{1}, make([]byte, 239)...), append(append([]byte{0, 240, 1}, make([]byte, 239)...), 232)},
	{bytes.Repeat([]byte{251}, 240), append(append([]byte{0, 240}, bytes.Repeat([]byte{251}, 240)...), 229)},
}

// bad are bytes that begin with no frame, and what is wrong, written by hand.
var bad = []struct {
	b   []byte
	err api.Errno
}{
	{nil, api.ErrShort}, {[]byte{}, api.ErrShort}, {[]byte{0}, api.ErrShort}, {[]byte{1}, api.ErrShort}, {[]byte{255}, api.ErrShort}, // not even a length
	{[]byte{0, 0}, api.ErrSize}, {[]byte{0, 0, 0}, api.ErrSize}, {[]byte{0, 0, 2}, api.ErrSize}, {[]byte{0, 0, 7, 23}, api.ErrSize}, {[]byte{0, 241}, api.ErrSize}, {[]byte{0, 255}, api.ErrSize}, {[]byte{0, 241, 0, 0}, api.ErrSize},
	{[]byte{1, 0}, api.ErrSize}, {[]byte{1, 1}, api.ErrSize}, {[]byte{1, 1, 7, 24}, api.ErrSize}, {[]byte{1, 240}, api.ErrSize}, {[]byte{2, 0, 0}, api.ErrSize}, {[]byte{127, 255}, api.ErrSize}, {[]byte{128, 0}, api.ErrSize}, {[]byte{128, 1, 7, 151}, api.ErrSize}, {[]byte{255, 1, 0}, api.ErrSize}, {[]byte{255, 255}, api.ErrSize},
	{[]byte{0, 1}, api.ErrShort}, {[]byte{0, 1, 7}, api.ErrShort}, {[]byte{0, 2, 1, 2}, api.ErrShort}, {[]byte{0, 2, 7, 26}, api.ErrShort}, {[]byte{0, 240}, api.ErrShort}, {append([]byte{0, 240}, make([]byte, 240)...), api.ErrShort},
	{[]byte{0, 1, 7, 22}, api.ErrForm}, {[]byte{0, 1, 7, 24}, api.ErrForm}, {[]byte{0, 1, 7, 0}, api.ErrForm}, {[]byte{0, 1, 7, 255}, api.ErrForm}, {[]byte{0, 1, 8, 23}, api.ErrForm}, {[]byte{0, 1, 6, 23}, api.ErrForm}, {[]byte{0, 1, 1, 23}, api.ErrForm},
	{[]byte{0, 1, 0, 253}, api.ErrForm}, {[]byte{0, 1, 83, 251}, api.ErrForm}, {[]byte{0, 1, 167, 252}, api.ErrForm}, // the same modulo 251, but no check
	{[]byte{0, 2, 2, 1, 15}, api.ErrForm}, {[]byte{0, 2, 1, 2, 14}, api.ErrForm}, {[]byte{0, 1, 7, 17}, api.ErrForm}, // other places: changed about, or from 0 on
}

// behind are bytes that stand behind a frame and are not its own.
var behind = [][]byte{nil, {0}, {1}, {23}, {255}, {0, 0}, {0, 1}, {0, 1, 7}, {0, 1, 7, 23}, {0, 1, 7, 24}, {0, 2, 1, 2, 15, 0, 1}, make([]byte, 300)}

// made is a load's frame as the chapter says it, with a sum that is made otherwise: what stands at a place is added once for it and once for each place ahead.
func made(load []byte) []byte {
	b := append(binary.BigEndian.AppendUint16(nil, uint16(len(load))), load...)
	sum, tail := 0, 0
	for i := len(b) - 1; i >= 0; i-- {
		tail += int(b[i])
		sum += tail
	}
	for sum >= 251 {
		sum -= 251
	}
	return append(b, byte(sum))
}

// wanted is what Next is to answer.
func wanted(b []byte) ([]byte, int, api.Errno) {
	if len(b) < 2 {
		return nil, 0, api.ErrShort
	}
	n := int(binary.BigEndian.Uint16(b))
	switch {
	case n == 0 || n > 240:
		return nil, 0, api.ErrSize
	case len(b) < n+3:
		return nil, 0, api.ErrShort
	case !bytes.HasPrefix(b, made(b[2:2+n])):
		return nil, 0, api.ErrForm
	}
	return b[2 : 2+n], n + 3, api.OK
}

// loads are many, of every size there is.
func loads() [][]byte {
	var l [][]byte
	for _, c := range said {
		l = append(l, c.load)
	}
	for c := range 1 << 8 {
		l = append(l, []byte{byte(c)}, []byte{byte(c), 0}, []byte{0, byte(c)}, []byte{byte(c), 255, byte(c)})
	}
	drawn := rand.New(rand.NewSource(6))
	for size := 1; size <= 240; size++ {
		for _, c := range []byte{0, 1, 127, 128, 250, 251, 255} {
			l = append(l, bytes.Repeat([]byte{c}, size))
		}
		for range 3 {
			l = append(l, drawnBytes(drawn, size))
		}
		rising := make([]byte, size)
		for i := range rising {
			rising[i] = byte(i)
		}
		l = append(l, rising)
	}
	return l
}

func drawnBytes(drawn *rand.Rand, size int) []byte {
	b := make([]byte, size)
	drawn.Read(b)
	return b
}

// texts are many bytes, of which some begin with a frame, and most with none.
func texts() [][]byte {
	var l [][]byte
	for _, c := range bad {
		l = append(l, c.b)
	}
	for i := range 1 << 8 {
		for j := range 1 << 8 {
			l = append(l, []byte{0, 1, byte(i), byte(j)}, []byte{0, byte(i), byte(j)}, []byte{byte(i), 1, 7, byte(j), 0})
		}
	}
	l = grown(l, nil, 6, []byte{0, 1, 2, 5, 7, 23})
	drawn := rand.New(rand.NewSource(66))
	for range 1 << 14 {
		b := append([]byte{0}, drawnBytes(drawn, 250)...)
		if end := int(b[1]) + 2; end <= 242 {
			b[end] = made(b[2:end])[end] + byte(drawn.Intn(3)) - 1
			l = append(l, b[:end+1])
		}
		l = append(l, b[:drawn.Intn(len(b)+1)], b)
	}
	return l
}

// grown are l, b, and b with up to so many of some bytes behind it.
func grown(l [][]byte, b []byte, more int, some []byte) [][]byte {
	l = append(l, slices.Clone(b))
	if more == 0 {
		return l
	}
	for _, c := range some {
		l = grown(l, append(slices.Clone(b), c), more-1, some)
	}
	return l
}

func checkMake(t *testing.T, load, want []byte, wantErr api.Errno) {
	t.Helper()
	if got, err := Make(load); !bytes.Equal(got, want) || err != wantErr {
		t.Errorf("Make(%v) = %v, %d, want %v, %d", load, got, err, want, wantErr)
	}
}

// checkNext looks at what Next and Open answer of b.
func checkNext(t *testing.T, b, load []byte, size int, wantErr api.Errno) {
	t.Helper()
	if got, n, err := Next(b); !bytes.Equal(got, load) || n != size || err != wantErr {
		t.Errorf("Next(%v) = %v, %d, %d, want %v, %d, %d", b, got, n, err, load, size, wantErr)
	}
	if wantErr == api.OK && size < len(b) {
		load, wantErr = nil, api.ErrForm
	}
	if got, err := Open(b); !bytes.Equal(got, load) || err != wantErr {
		t.Errorf("Open(%v) = %v, %d, want %v, %d", b, got, err, load, wantErr)
	}
}

func checkSplit(t *testing.T, b []byte, want [][]byte, wantErr api.Errno) {
	t.Helper()
	if got, err := Split(b); !slices.EqualFunc(got, want, bytes.Equal) || err != wantErr {
		t.Errorf("Split(%v) = %v, %d, want %v, %d", b, got, err, want, wantErr)
	}
}

func TestP6_1MakeCases(t *testing.T) {
	for _, c := range said {
		checkMake(t, c.load, c.frame, api.OK)
	}
}

func TestP6_1MakeOfManyLoads(t *testing.T) {
	for _, load := range loads() {
		checkMake(t, load, made(load), api.OK)
	}
}

func TestP6_1EachByteAtEachPlace(t *testing.T) {
	load := make([]byte, api.MaxFrame)
	for place := range load {
		for c := range 1 << 8 {
			load[place] = byte(c)
			checkMake(t, load, made(load), api.OK)
		}
		load[place] = byte(3 * place)
	}
}

func TestP6_1MakeOfWhatIsNoLoad(t *testing.T) {
	checkMake(t, nil, nil, api.ErrSize)
	checkMake(t, []byte{}, nil, api.ErrSize)
	checkMake(t, make([]byte, 0, 100), nil, api.ErrSize)
	for size := 241; size < 1100; size++ { // so long that one byte would hold 1, or 240
		checkMake(t, make([]byte, size), nil, api.ErrSize)
		checkMake(t, bytes.Repeat([]byte{7}, size), nil, api.ErrSize)
	}
	for _, size := range []int{1<<15 - 1, 1 << 15, 1<<15 + 1, 1<<16 - 1, 1 << 16, 1<<16 + 1, 1<<16 + 240, 1<<16 + 256, 1<<17 + 1, 1<<20 + 1} { // and two
		checkMake(t, make([]byte, size), nil, api.ErrSize)
	}
}

func TestP6_1MakeLeavesWhatIsHandedIn(t *testing.T) {
	for _, size := range []int{0, 1, 3, 240, 241} {
		room := bytes.Repeat([]byte{9}, size+10)
		Make(room[:size])
		if !bytes.Equal(room, bytes.Repeat([]byte{9}, size+10)) {
			t.Errorf("Make of %d bytes leaves %v", size, room)
		}
	}
}

func TestP6_1MakeAnswersNewMemory(t *testing.T) {
	for _, c := range said {
		room := append(slices.Clone(c.load), 1, 2, 3, 4, 5)
		was := slices.Clone(room)
		got, _ := Make(room[:len(c.load)])
		clear(got[:cap(got)])
		if !bytes.Equal(room, was) {
			t.Errorf("Make(%v): what is answered is what was handed in", c.load)
		}
		got, _ = Make(room[:len(c.load)])
		clear(room)
		if !bytes.Equal(got, c.frame) {
			t.Errorf("Make(%v): what was handed in is what is answered", c.load)
		}
	}
}

func TestP6_2NextCases(t *testing.T) {
	for _, c := range said {
		for _, more := range behind {
			checkNext(t, slices.Concat(c.frame, more), c.load, len(c.frame), api.OK)
		}
	}
}

func TestP6_2NextOfWhatIsNone(t *testing.T) {
	for _, c := range bad {
		checkNext(t, c.b, nil, 0, c.err)
	}
}

func TestP6_2ErrorsBehindWhichMoreStands(t *testing.T) {
	for _, c := range bad {
		for _, more := range behind {
			if len(more) == 0 || c.err == api.ErrShort {
				continue // it isn't short any more
			}
			checkNext(t, slices.Concat(c.b, more), nil, 0, c.err)
		}
	}
}

func TestP6_2EachLength(t *testing.T) {
	zeros := make([]byte, 1<<16+10)
	for n := range 1 << 16 {
		length := []byte{byte(n >> 8), byte(n)}
		if n < 1 || n > 240 {
			checkNext(t, length, nil, 0, api.ErrSize) // also if bytes are missing
			copy(zeros, length)
			zeros[n+2] = byte((n>>8 + 2*(n&255)) % 251) // the check, as all else is 0
			if _, _, err := Next(zeros); err != api.ErrSize {
				t.Errorf("of a length of %d: %d", n, err)
			}
			zeros[n+2] = 0
			continue
		}
		load := bytes.Repeat([]byte{5}, n)
		whole := made(load)
		for size := 2; size < len(whole); size++ {
			checkNext(t, whole[:size], nil, 0, api.ErrShort)
		}
		checkNext(t, whole, load, n+3, api.OK)
	}
}

func TestP6_2LengthGoesAheadOfWhatIsMissing(t *testing.T) {
	for _, b := range [][]byte{{0, 0}, {0, 241}, {1, 0}, {1, 1}, {255, 255}} {
		for size := range 300 {
			checkNext(t, append(slices.Clone(b), make([]byte, size)...), nil, 0, api.ErrSize)
		}
	}
}

func TestP6_2WhatIsMissingGoesAheadOfTheCheck(t *testing.T) {
	for _, last := range []byte{0, 1, 23, 255} {
		checkNext(t, []byte{0, 2, 7, last}, nil, 0, api.ErrShort)
		checkNext(t, []byte{0, 240, 7, last}, nil, 0, api.ErrShort)
	}
}

func TestP6_2OneCheckAlone(t *testing.T) {
	for _, c := range said {
		b := slices.Clone(c.frame)
		for last := range 1 << 8 {
			b[len(b)-1] = byte(last)
			if byte(last) == c.frame[len(b)-1] {
				checkNext(t, b, c.load, len(b), api.OK)
			} else {
				checkNext(t, b, nil, 0, api.ErrForm)
			}
		}
	}
}

func TestP6_2NextOfAllSortsOfBytes(t *testing.T) {
	opened := 0
	for _, b := range texts() {
		load, size, err := wanted(b)
		checkNext(t, b, load, size, err)
		if err == api.OK {
			opened++
		}
	}
	if opened < 1000 {
		t.Errorf("of all these bytes only %d begin with a frame", opened)
	}
}

func TestP6_2OpenOfWhatStandsBehind(t *testing.T) {
	for _, c := range said {
		for _, more := range behind {
			want, wantErr := c.load, api.OK
			if len(more) > 0 {
				want, wantErr = nil, api.ErrForm
			}
			if got, err := Open(slices.Concat(c.frame, more)); !bytes.Equal(got, want) || err != wantErr {
				t.Errorf("Open of a frame of %v and %v = %v, %d", c.load, more, got, err)
			}
		}
	}
}

func TestP6_2SplitOfNothing(t *testing.T) {
	checkSplit(t, nil, nil, api.OK)
	checkSplit(t, []byte{}, nil, api.OK)
}

func TestP6_2SplitCases(t *testing.T) {
	checkSplit(t, []byte{0, 1, 7, 23}, [][]byte{{7}}, api.OK)
	checkSplit(t, []byte{0, 1, 7, 23, 0, 1, 7, 23}, [][]byte{{7}, {7}}, api.OK)
	checkSplit(t, []byte{0, 1, 7, 23, 0, 2, 1, 2, 15, 0, 1, 0, 2}, [][]byte{{7}, {1, 2}, {0}}, api.OK)
	checkSplit(t, []byte{0, 2, 1, 2, 15, 0, 1, 7, 23}, [][]byte{{1, 2}, {7}}, api.OK)
	checkSplit(t, []byte{0, 4, 0, 1, 7, 23, 185}, [][]byte{{0, 1, 7, 23}}, api.OK)
}

func TestP6_2SplitOfManyFrames(t *testing.T) {
	var all []byte
	for _, load := range loads() {
		all = append(all, made(load)...)
	}
	checkSplit(t, all, loads(), api.OK)
	var some []byte
	for size, load := range loads()[:50] {
		some = append(some, made(load)...)
		checkSplit(t, some, loads()[:size+1], api.OK)
	}
}

func TestP6_2SplitTellsNextsFirstError(t *testing.T) {
	for _, c := range bad {
		var ahead []byte
		for _, s := range said {
			if len(c.b) > 0 {
				checkSplit(t, slices.Concat(ahead, c.b), nil, c.err)
			}
			for _, more := range bad {
				if c.err != api.ErrShort {
					checkSplit(t, slices.Concat(ahead, c.b, more.b), nil, c.err)
					checkSplit(t, slices.Concat(ahead, c.b, s.frame, more.b), nil, c.err)
				}
			}
			ahead = append(ahead, s.frame...)
		}
	}
}

func TestP6_2SplitOfFramesThatAreCut(t *testing.T) {
	l := [][]byte{{7}, {1, 2}, []byte("abc"), {0}}
	var all []byte
	ends := map[int]int{0: 0} // how many frames end there
	for i, load := range l {
		all = append(all, made(load)...)
		ends[len(all)] = i + 1
	}
	for size := range len(all) + 1 {
		if n, ok := ends[size]; ok {
			checkSplit(t, all[:size], l[:n], api.OK)
		} else {
			checkSplit(t, all[:size], nil, api.ErrShort)
		}
	}
}

func TestP6_2LoadsAreHandedOutTillOneLeaves(t *testing.T) {
	b := []byte{0, 1, 7, 23, 0, 1, 0, 2, 0, 1, 1, 5, 0, 0}
	all := loadsOf(b)
	for range 2 { // what is ranged over again begins again
		for most := range 6 {
			var got [][]byte
			for load, err := range all {
				if len(got) == most {
					break
				}
				if (err != api.OK) != (len(got) == 3) || err != api.OK && err != api.ErrSize {
					t.Errorf("%v, %d behind %v", load, err, got)
				}
				got = append(got, load)
			}
			if want := [][]byte{{7}, {0}, {1}, nil}; !slices.EqualFunc(got, want[:min(most, 4)], bytes.Equal) {
				t.Errorf("of at most %d: %v", most, got)
			}
		}
	}
}

func TestP6_2OpeningLeavesWhatIsHandedIn(t *testing.T) {
	for _, c := range said {
		b := slices.Concat(c.frame, c.frame, []byte{1, 2, 3})
		was := slices.Clone(b)
		Next(b)
		Open(b)
		Split(b)
		Next(b[:len(c.frame)])
		Open(b[:len(c.frame)])
		Split(b[:2*len(c.frame)])
		if !bytes.Equal(b, was) {
			t.Errorf("%v is left of %v", b, was)
		}
	}
}

// opened are the loads that Next, Open and Split answer of a frame that stands twice in b.
func opened(b []byte) [][]byte {
	one, _, _ := Next(b)
	other, _ := Open(b[:len(b)/2])
	more, _ := Split(b)
	return append(more, one, other)
}

func TestP6_2OpeningAnswersNewMemory(t *testing.T) {
	for _, c := range said {
		b := slices.Concat(c.frame, c.frame)
		was := slices.Clone(b)
		l := opened(b)
		clear(b)
		if len(l) != 4 {
			t.Fatal(l)
		}
		for i, load := range l {
			if !bytes.Equal(load, c.load) {
				t.Errorf("what was handed in is what is answered (%d)", i)
			}
		}
		copy(b, was)
		for i := range l {
			for j := range l[i][:cap(l[i])] {
				l[i][:cap(l[i])][j] = 99
			}
			for k := i + 1; k < len(l); k++ {
				if !bytes.Equal(l[k], c.load) {
					t.Errorf("two lists share memory (%d, %d)", i, k)
				}
			}
		}
		if !bytes.Equal(b, was) {
			t.Errorf("what is answered is what was handed in")
		}
	}
}

func TestP6_3OpenedAsItWas(t *testing.T) {
	for _, load := range loads() {
		b, err := Make(load)
		if err != api.OK {
			t.Fatalf("Make(%v): %d", load, err)
		}
		checkNext(t, b, load, len(b), api.OK)
		checkSplit(t, b, [][]byte{load}, api.OK)
		checkNext(t, append(b, 0), load, len(b), api.OK)
	}
}

func TestP6_3MadeAsItIsOpened(t *testing.T) {
	read := 0
	for _, b := range texts() {
		load, err := Open(b)
		if err != api.OK {
			continue
		}
		read++
		checkMake(t, load, b, api.OK)
	}
	if read < 1000 {
		t.Errorf("of all these bytes only %d are a frame", read)
	}
}

func TestP6_3SplitAsTheyWereMade(t *testing.T) {
	var all []byte
	for _, load := range loads() {
		b, _ := Make(load)
		all = append(all, b...)
	}
	checkSplit(t, all, loads(), api.OK)
}

func TestP6_3OneByteIsAnotherOne(t *testing.T) {
	for i, load := range loads() {
		if len(load) > 5 && i%97 != 0 && len(load) != api.MaxFrame {
			continue // each byte of each place of all of them would take too long
		}
		b, _ := Make(load)
		for place := 2; place < len(b)-1; place++ {
			checkOtherByte(t, b, place)
		}
	}
}

// checkOtherByte puts each byte at a place of the load of a frame, and what was there again.
func checkOtherByte(t *testing.T, b []byte, place int) {
	t.Helper()
	was := b[place]
	for c := range 1 << 8 {
		b[place] = byte(c)
		want := api.ErrForm
		if c%251 == int(was)%251 {
			want = api.OK
		}
		load, err := Open(b)
		if err != want || err == api.OK && !bytes.Equal(load, b[2:len(b)-1]) || err != api.OK && len(load) > 0 {
			t.Errorf("with %d for %d at %d of %d: %v, %d", c, was, place, len(b), load, err)
		}
	}
	b[place] = was
}

func TestP6_3OneByteIsAnotherOneInARow(t *testing.T) {
	b, _ := Make([]byte("abc"))
	all := slices.Concat(b, b, b)
	for place := range all {
		if in := place % len(b); in < 2 || in == len(b)-1 {
			continue // not of a load
		}
		all[place]++
		checkSplit(t, all, nil, api.ErrForm)
		all[place]--
	}
	checkSplit(t, all, [][]byte{[]byte("abc"), []byte("abc"), []byte("abc")}, api.OK)
}
