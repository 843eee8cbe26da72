package ratchet

import (
	"math"
	"slices"
	"strconv"
	"strings"
	"testing"
)

// numbered are the texts of some messages: their numbers.
func numbered(n int) []string {
	var texts []string
	for i := range n {
		texts = append(texts, strconv.Itoa(i))
	}
	return texts
}

// getsAll: the party opens the frames with these numbers, in this order.
func getsAll(t *testing.T, p *Party, frames []string, numbers ...int) {
	t.Helper()
	for _, i := range numbers {
		gets(t, p, frames[i], "all", strconv.Itoa(i))
	}
}

// losesAll: the party has no key for the frames with these numbers, whatever
// is done with them.
func losesAll(t *testing.T, p *Party, frames []string, numbers ...int) {
	t.Helper()
	for _, i := range numbers {
		getsNot(t, p, "", frames[i], hashOf("all"), ErrAuth)
	}
}

func from(first int, last int) []int {
	var numbers []int
	for i := first; i <= last; i++ {
		numbers = append(numbers, i)
	}
	return numbers
}

// behind is a party that has made a turn and keeps keys, the other one, and
// what that one has sent: three frames of the elder chain, then three.
func behind(t *testing.T) (*Party, *Party, []string) {
	t.Helper()
	a, b := pair(t)
	frames := sends(t, a, "0", "1", "2")
	gets(t, b, frames[1], "b", "1")
	gets(t, a, sends(t, b, "back")[0], "a", "back")
	frames = append(frames, sends(t, a, "3", "4", "5")...)
	gets(t, b, frames[4], "c", "4")
	return b, a, frames
}

func TestP9Bounds(t *testing.T) {
	for _, ad := range []int{0, 1, adBound} {
		for _, size := range []int{0, 1, textBound - 1, textBound} {
			a, b := pair(t)
			frame, err := a.Send(pattern(ad), pattern(size))
			if err != nil || len(frame) != frameLeast+size {
				t.Fatalf("P8: Send = %x, %v", frame, err)
			}
			got, err := b.Receive(pattern(ad), frame, hashOf("b"))
			checkAnswer(t, "Receive at the bounds", got, err, pattern(size))
		}
	}
}

// Each error that is seen without a party, and ahead of those behind it.
func TestP9Misfits(t *testing.T) {
	b, _, frames := behind(t)
	first, second := pair(t)
	draw, long := hashOf("d"), pattern(adBound+1)
	for _, p := range []*Party{b, first, second} {
		for _, frame := range append(frames, "", pattern(frameLeast-1), pattern(frameLeast), pattern(frameBound), pattern(frameBound+1)) {
			for _, wrong := range append(notKeys(), draw) {
				getsNot(t, p, long, frame, wrong, ErrLong)
			}
		}
		for _, size := range []int{frameBound + 1, frameBound + 2, 256, 65536 + frameLeast} {
			for _, wrong := range append(notKeys(), draw) {
				getsNot(t, p, "", pattern(size), wrong, ErrLong)
				getsNot(t, p, pattern(adBound), pattern(size), wrong, ErrLong)
			}
		}
		for _, wrong := range notKeys() {
			for _, frame := range append(frames, "", pattern(frameLeast-1), pattern(frameLeast), pattern(frameBound)) {
				getsNot(t, p, "", frame, wrong, ErrKey)
				getsNot(t, p, pattern(adBound), frame, wrong, ErrKey)
			}
		}
		for size := range frameLeast {
			getsNot(t, p, "", pattern(size), draw, ErrForm)
			getsNot(t, p, pattern(adBound), frames[4][:size], draw, ErrForm)
		}
		getsNot(t, p, "", pattern(frameLeast-1)+"\x00", draw, ErrSkip)
	}
	getsAll(t, b, frames, 0, 2, 3, 5)
}

// A kept key opens its frame once; what it does not open leaves it kept.
func TestP9KeptKeyOpensOnce(t *testing.T) {
	b, _, frames := behind(t)
	for _, i := range []int{2, 0, 3} {
		for bit := 36 * 8; bit < 8*len(frames[i]); bit++ {
			getsNot(t, b, "", flipped(frames[i], bit), hashOf("d"), ErrAuth)
		}
		getsNot(t, b, "ad", frames[i], hashOf("d"), ErrAuth)
		getsNot(t, b, "", frames[i][:len(frames[i])-1], hashOf("d"), ErrAuth)
		getsNot(t, b, "", frames[i]+"x", hashOf("d"), ErrAuth)
		for _, before := range []int{1, 13, math.MaxUint16} {
			// The count of the chain before skips nothing where a key is kept.
			getsNot(t, b, "", renumbered(frames[i], before, int(frames[i][35])), hashOf("d"), ErrAuth)
		}
		getsAll(t, b, frames, i)
		losesAll(t, b, frames, i)
	}
	getsAll(t, b, frames, 5)
}

// A kept key moves nothing else: no chain, no root, no secret, no other key.
func TestP9KeptKeyMovesNothing(t *testing.T) {
	b, _, frames := behind(t)
	for _, i := range []int{2, 0, 3} {
		want := state(b)
		at := slices.IndexFunc(want.kept, func(k keptKey) bool { return k.theirs == frames[i][:32] && k.number == int(frames[i][35]) })
		if at < 0 {
			t.Fatalf("P12: no key is kept for frame %d", i)
		}
		want.kept = slices.Delete(want.kept, at, at+1)
		gets(t, b, frames[i], "other", strconv.Itoa(i))
		checkState(t, b, want)
	}
	checkAnswer(t, "the public key", sends(t, b, "x")[0][:32], nil, publicOf(t, hashOf("c")))
}

// A sender whose draws come again has two chains with one public key: of two
// keys for one number the first one opens, or none.
func TestP9FirstOfSeveralKeptKeys(t *testing.T) {
	a, b := pair(t)
	old := sends(t, a, "old 0", "old 1", "old 2")
	gets(t, b, old[2], "b", "old 2")
	gets(t, a, sends(t, b, "back")[0], "a", "back")
	gets(t, b, sends(t, a, "between")[0], "c", "between")
	gets(t, a, sends(t, b, "back")[0], "draw", "back")
	again := sends(t, a, "new 0", "new 1", "new 2", "new 3")
	if again[0][:32] != old[0][:32] {
		t.Fatal("the public key did not come again")
	}
	gets(t, b, again[3], "d", "new 3")
	getsNot(t, b, "", again[1], hashOf("e"), ErrAuth)
	gets(t, b, old[1], "e", "old 1")
	gets(t, b, again[1], "e", "new 1")
	getsNot(t, b, "", again[0], hashOf("e"), ErrAuth)
	gets(t, b, again[2], "e", "new 2")
	gets(t, b, old[0], "e", "old 0")
	gets(t, b, again[0], "e", "new 0")
	losesAll(t, b, append(old, again...), from(0, 6)...)
}

func TestP10InOrderAndTwice(t *testing.T) {
	a, b := pair(t)
	frames := sends(t, a, numbered(sendBound)...)
	for i := range frames {
		getsAll(t, b, frames, i)
		losesAll(t, b, frames, from(0, i)...)
	}
}

func TestP10LateAndLost(t *testing.T) {
	a, b := pair(t)
	frames := sends(t, a, numbered(20)...)
	getsAll(t, b, frames, 2, 0, 3, 1, 7, 6, 9, 8, 5, 15, 4, 12, 10, 14, 19)
	losesAll(t, b, frames, 0, 1, 2, 3, 4, 5, 6, 7, 8, 9, 10, 12, 14, 15, 19)
	getsAll(t, b, frames, 13, 11, 18, 16, 17)
	losesAll(t, b, frames, from(0, 19)...)
}

// A number below the next is refused, even with the key that would open the
// next one.
func TestP10BelowTheNext(t *testing.T) {
	a, b := twins(t)
	p, _ := Second(root(), ownSecret())
	for number := range 5 {
		bothGet(t, p, b, a.told("", "x", 0, number), "x")
		for below := range number + 1 {
			for key := range number + 3 {
				frame := wantFrame(t, messageKey(a.out, key), a.public(), 0, below, "", "y")
				getsNot(t, p, "", frame, hashOf("d"), ErrAuth)
			}
		}
	}
}

// ErrSkip at one above the bound, from wherever the chain stands.
func TestP10Skip(t *testing.T) {
	a, b := twins(t)
	p, _ := Second(root(), ownSecret())
	next := 0
	for _, number := range []int{0, 10, 11, 22, 32, 33, 44} {
		for _, above := range []int{1, 2, 100, 246, math.MaxUint16 - next - skipBound} {
			getsNot(t, p, "", a.told("", "far", 0, next+skipBound+above), hashOf("d"), ErrSkip)
		}
		bothGet(t, p, b, a.told("", "x", 0, number), "x")
		next = number + 1
	}
	// What would be skipped is refused ahead of being opened or not.
	getsNot(t, p, "", flipped(a.told("", "x", 0, next+skipBound+1), 300), hashOf("d"), ErrSkip)
	getsNot(t, p, "", flipped(a.told("", "x", 0, next+skipBound), 300), hashOf("d"), ErrAuth)
	gets(t, p, a.told("", "x", math.MaxUint16, next+skipBound), "d", "x")
}

// checkKept holds the kept keys against the twin's, their order too.
func checkKept(t *testing.T, p *Party, w *twin) {
	t.Helper()
	if len(p.kept) != len(w.spare) {
		t.Fatalf("P12: %d keys are kept, want %d", len(p.kept), len(w.spare))
	}
	for i, k := range p.kept {
		if spareKey(k) != w.spare[i] {
			t.Errorf("P12: the kept key %d is that of message %d, want %d", i, k.number, w.spare[i].number)
		}
	}
}

// bothGet: the party and its twin open a frame, keep the same keys, and would
// send the same behind it.
func bothGet(t *testing.T, p *Party, w *twin, frame string, text string) {
	t.Helper()
	gets(t, p, frame, text, text)
	if _, err := w.receive("", frame, hashOf(text)); err != nil {
		t.Fatalf("the twin does not open the frame: %v", err)
	}
	checkKept(t, p, w)
	want, wanted := w.copied().send("", "back")
	got, err := p.Copy().Send("", "back")
	if got != want || err != wanted {
		t.Errorf("P11: behind it Send = %x, %v, want %x, %v", got, err, want, wanted)
	}
}

// Up to the last number that two bytes can tell, and none behind it.
func TestP10LastNumber(t *testing.T) {
	a, _ := twins(t)
	p, _ := Second(root(), ownSecret())
	key, public, next := []byte(a.out), a.public(), 0
	var last []string
	for next <= math.MaxUint16 {
		number := min(next+skipBound, math.MaxUint16)
		for ; next <= number; next++ {
			if next > math.MaxUint16-3 || next == number {
				last = append(last, wantFrame(t, string(wantMac(key, []byte{1})), public, 0, next, "", strconv.Itoa(next)))
			}
			key = wantMac(key, []byte{2})
		}
		gets(t, p, last[len(last)-1], "d", strconv.Itoa(number))
	}
	getsNot(t, p, "", last[len(last)-1], hashOf("d"), ErrAuth)
	for _, number := range []int{0, 1, 255, 256, 65000} {
		getsNot(t, p, "", renumbered(last[0], 0, number), hashOf("d"), ErrAuth)
	}
	gets(t, p, last[len(last)-2], "d", "65534")
	sends(t, p, "back")
}

// First knows a public key, and has no chain to receive with it.
func TestP10NoChain(t *testing.T) {
	a, _ := pair(t)
	for _, number := range []int{0, 1, skipBound, skipBound + 1, math.MaxUint16} {
		for _, key := range []string{hashOf("key"), root(), strings.Repeat("\x00", 32)} {
			frame := wantFrame(t, key, publicOf(t, ownSecret()), 0, number, "", "x")
			getsNot(t, a, "", frame, hashOf("d"), ErrAuth)
		}
	}
	losesAll(t, a, sends(t, a, "own"), 0)
}

func TestP10NotOpened(t *testing.T) {
	b, a, frames := behind(t)
	seventh := sends(t, a, "6", "7")[1]
	for bit := 36 * 8; bit < 8*len(seventh); bit++ {
		getsNot(t, b, "", flipped(seventh, bit), hashOf("d"), ErrAuth)
	}
	getsNot(t, b, "ad", seventh, hashOf("d"), ErrAuth)
	for number := range 14 {
		want := ErrAuth
		if number > 2+skipBound {
			want = ErrSkip
		}
		if number != int(seventh[35]) {
			getsNot(t, b, "", renumbered(seventh, 3, number), hashOf("d"), want)
		}
	}
	gets(t, b, seventh, "d", "7")
	getsAll(t, b, frames, 5, 3, 2, 0)
}

// Turns there and back again, a message of each chain late by four of them.
func TestP11ThereAndBackAgain(t *testing.T) {
	a, b := pair(t)
	c, d := twins(t)
	var late []string
	for turn := range 12 {
		name := strconv.Itoa(turn)
		frames := sends(t, a, name, "late "+name, "last "+name)
		for i, text := range []string{name, "late " + name, "last " + name} {
			want, _ := c.send("", text)
			checkAnswer(t, "a frame", frames[i], nil, want)
		}
		late = append(late, frames[1])
		for _, frame := range []string{frames[2], frames[0]} {
			want, _ := d.receive("", frame, hashOf(name))
			got, err := b.Receive("", frame, hashOf(name))
			checkAnswer(t, "Receive", got, err, want)
		}
		if turn >= 4 {
			gets(t, b, late[turn-4], "no", "late "+strconv.Itoa(turn-4))
			d.receive("", late[turn-4], hashOf("no"))
		}
		checkKept(t, b, d)
		a, b, c, d = b, a, d, c
	}
}

// The elder chain's keys are skipped up to l, and the new one's up to n.
func TestP11ElderChain(t *testing.T) {
	for _, got := range []int{0, 1, 5} {
		for _, before := range []int{0, got, got + 1, got + 2, got + 3, got + skipBound} {
			for _, number := range []int{0, 1, skipBound} {
				p, c, d := turning(t, got)
				bothGet(t, p, d, c.told("", "turned", before, number), "turned")
			}
		}
	}
}

// turning is a party (and its twin) that has got some messages of a chain, the
// last of which is number got, and the twin of the other one, which has made a
// turn since.
func turning(t *testing.T, got int) (*Party, *twin, *twin) {
	t.Helper()
	p, err := Second(root(), ownSecret())
	if err != nil {
		t.Fatal(err)
	}
	c, d := twins(t)
	bothGet(t, p, d, c.told("", "x", 0, got), "x")
	back, _ := d.send("", "back")
	checkAnswer(t, "what is sent back", sends(t, p, "back")[0], nil, back)
	c.receive("", back, hashOf("c"))
	return p, c, d
}

func TestP11Skip(t *testing.T) {
	for _, got := range []int{0, 3, 10} {
		p, c, d := turning(t, got)
		most := got + 1 + skipBound
		for _, numbers := range [][2]int{{most + 1, 0}, {most + 1, skipBound}, {most + 2, 0}, {256, 0}, {math.MaxUint16, 0}, {0, skipBound + 1}, {most, skipBound + 1}, {0, 256}, {most, math.MaxUint16}, {math.MaxUint16, math.MaxUint16}} {
			frame := c.told("", "far", numbers[0], min(numbers[1], 300))
			frame = renumbered(frame, numbers[0], numbers[1])
			getsNot(t, p, "", frame, hashOf("d"), ErrSkip)
			getsNot(t, p, "", flipped(frame, 8*len(frame)-1), hashOf("d"), ErrSkip)
		}
		frame := c.told("", "near", most, skipBound)
		getsNot(t, p, "", flipped(frame, 8*len(frame)-1), hashOf("d"), ErrAuth)
		bothGet(t, p, d, frame, "near")
	}
}

// Without a chain to receive the count of the one before says nothing.
func TestP11NoElderChain(t *testing.T) {
	for _, before := range []int{1, skipBound, skipBound + 1, skipBound + 2, 256, math.MaxUint16} {
		c, d := twins(t)
		_, second := pair(t)
		bothGet(t, second, d, c.told("", "x", before, 2), "x")
		getsNot(t, second, "", wantFrame(t, hashOf("key"), hashOf("q"), 14, 0, "", "x"), hashOf("d"), ErrSkip)

		first, _ := pair(t)
		getsNot(t, first, "", d.told("", "back", before, skipBound+1), hashOf("d"), ErrSkip)
		bothGet(t, first, c, d.told("", "back", before, skipBound), "back")
	}
}

// Whatever bit is turned, the frame itself is got behind it as if nothing had
// been.
func TestP11NotOpened(t *testing.T) {
	p, c, d := turning(t, 1)
	frame := c.told("", "x", 3, 1)
	for bit := range 8 * len(frame) {
		want := ErrAuth
		if changed := flipped(frame, bit); changed[32] > 0 || changed[33] > 2+skipBound || changed[34] > 0 || changed[35] > skipBound {
			want = ErrSkip
		}
		getsNot(t, p, "", flipped(frame, bit), hashOf("e"), want)
	}
	getsNot(t, p, "ad", frame, hashOf("e"), ErrAuth)
	bothGet(t, p, d, frame, "x")
}

// A public key is its bytes: one that stands for the same number, or for
// nothing at all, begins a chain as others do.
func TestP11OddPublicKeys(t *testing.T) {
	for _, odd := range []string{strings.Repeat("\x00", 32), strings.Repeat("\xff", 32), nine(), flipped(publicOf(t, hashOf("c")), 255)} {
		p, c, d := turning(t, 1)
		bothGet(t, p, d, c.told("", "turned", 2, 0), "turned")
		_, in := d.turn(d.root, d.secret, odd)
		bothGet(t, p, d, wantFrame(t, messageKey(in, 2), odd, 4, 2, "", "odd"), "odd")
	}
}

// The first ones of too many go: of one chain, and of two in one frame.
func TestP12FirstOnesGo(t *testing.T) {
	a, b := pair(t)
	frames := sends(t, a, numbered(sendBound)...)
	getsAll(t, b, frames, 10)
	getsAll(t, b, frames, 17) // 0 to 9 and 11 to 16 are kept: as many as can be.
	getsAll(t, b.Copy(), frames, 0, 1, 2, 3, 4, 5, 6, 7, 8, 9, 11, 12, 13, 14, 15, 16)
	getsAll(t, b, frames, 19)
	losesAll(t, b, frames, 0)
	getsAll(t, b, frames, 5, 22)
	losesAll(t, b, frames, 1)
	getsAll(t, b, frames, 16, 2, 21, 3, 4, 6, 7, 8, 9, 11, 12, 13, 14, 15, 18, 20)
	losesAll(t, b, frames, from(0, 22)...)
	getsAll(t, b, frames, from(23, 29)...)
}

func TestP12FirstOnesOfTheElderChainGo(t *testing.T) {
	a, b := pair(t)
	elder := sends(t, a, numbered(14)...)
	getsAll(t, b, elder, 1, 3)
	gets(t, a, sends(t, b, "back")[0], "a", "back")
	frames := sends(t, a, numbered(12)...)
	getsAll(t, b, frames, 10) // 0 and 2, then 4 to 13, then 0 to 9: 22 keys.
	losesAll(t, b, elder, from(0, 7)...)
	getsAll(t, b, elder, 8, 13, 12, 9)
	getsAll(t, b, frames, 9, 0, 5, 1, 2, 3, 4, 6, 7, 8, 11)
	getsAll(t, b, elder, 10, 11)
	losesAll(t, b, elder, from(0, 10)...)
	losesAll(t, b, frames, from(0, 11)...)
	for _, frame := range elder[11:] {
		// Without its key a frame of the elder chain is one that begins a chain.
		getsNot(t, b, "", frame, hashOf("all"), ErrSkip)
	}
}

// After each kind of error the party answers what its twin does, which has not
// met any.
func TestP12AsIfNothingHadBeen(t *testing.T) {
	b, a, frames := behind(t)
	want := b.Copy()
	fresh := wantFrame(t, hashOf("key"), hashOf("q"), 3, 1, "", "x")
	for _, c := range []struct {
		ad, frame, draw string
		err             error
	}{
		{pattern(adBound + 1), frames[5], hashOf("d"), ErrLong},
		{"", pattern(frameBound + 1), hashOf("d"), ErrLong},
		{"", frames[5], "", ErrKey},
		{"", frames[5][:frameLeast-1], hashOf("d"), ErrForm},
		{"ad", frames[0], hashOf("d"), ErrAuth},
		{"", frames[1], hashOf("d"), ErrAuth},
		{"ad", frames[5], hashOf("d"), ErrAuth},
		{"", renumbered(frames[5], 3, 13), hashOf("d"), ErrSkip},
		{"", renumbered(fresh, 13, 0), hashOf("d"), ErrSkip},
		{"", renumbered(fresh, 3, 11), hashOf("d"), ErrSkip},
		{"", fresh, hashOf("d"), ErrAuth},
	} {
		getsNot(t, b, c.ad, c.frame, c.draw, c.err)
	}
	for _, p := range []*Party{b, want} {
		getsAll(t, p, frames, 5, 0, 3, 2)
	}
	checkSame(t, "a party behind errors", sends(t, b, "x", "y"), sends(t, want, "x", "y"))
	gets(t, a, sends(t, b, "z")[0], "e", "z")
	gets(t, b, sends(t, a, "again")[0], "f", "again")
}
