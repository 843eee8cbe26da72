package ratchet

import (
	"math"
	"strconv"
	"strings"
	"testing"
)

// roots are ordinary keys and the odd ones among those of 32 bytes.
func roots() []string {
	return []string{hashOf("a"), hashOf("b"), nine(), strings.Repeat("\x00", 32), strings.Repeat("\xff", 32)}
}

func notKeys() []string {
	return []string{"", "x", pattern(16), pattern(31), pattern(33), pattern(64), pattern(200), pattern(201), pattern(288), pattern(70000)}
}

// What First sends shows its root, secret, public key and chain.
func TestP7First(t *testing.T) {
	for _, root := range roots() {
		for _, theirs := range roots() {
			p, err := First(root, theirs, hashOf("draw"))
			if p == nil || err != nil {
				t.Fatalf("P7: First = %v, %v", p, err)
			}
			w := firstTwin(t, root, theirs, hashOf("draw"))
			for range 3 {
				want, _ := w.send("ad", "text")
				got, err := p.Send("ad", "text")
				checkAnswer(t, "the frame of First", got, err, want)
			}
		}
	}
}

// Second has a root and a secret: it gets what First sends, and answers.
func TestP7Second(t *testing.T) {
	for _, root := range roots() {
		for _, own := range roots() {
			p, err := Second(root, own)
			if p == nil || err != nil {
				t.Fatalf("P7: Second = %v, %v", p, err)
			}
			checkStill(t, p, ErrNone, func() (string, error) { return p.Send("", "") })
			w := secondTwin(t, root, own)
			frame, _ := firstTwin(t, root, publicOf(t, own), hashOf("draw")).send("", "text")
			gets(t, p, frame, "next", "text")
			w.receive("", frame, hashOf("next"))
			want, _ := w.send("", "back")
			got, err := p.Send("", "back")
			checkAnswer(t, "the frame of Second", got, err, want)
		}
	}
}

func checkNoParty(t *testing.T, call string, p *Party, err error) {
	t.Helper()
	if p != nil || !isJust(err, ErrKey) {
		t.Errorf("%s = %v, %v, want only ErrKey", call, p, err)
	}
}

func TestP7NoKeys(t *testing.T) {
	good := hashOf("good")
	for _, bad := range notKeys() {
		for _, c := range [][3]string{{bad, good, good}, {good, bad, good}, {good, good, bad}, {bad, bad, good}, {bad, good, bad}, {good, bad, bad}, {bad, bad, bad}} {
			p, err := First(c[0], c[1], c[2])
			checkNoParty(t, "First", p, err)
			if c[0] == bad || c[1] == bad {
				p, err = Second(c[0], c[1])
				checkNoParty(t, "Second", p, err)
			}
		}
	}
	p, err := First(good+"x", good[1:], good)
	checkNoParty(t, "First of 96 bytes parted wrongly", p, err)
	p, err = Second(good+"x", good[1:])
	checkNoParty(t, "Second of 64 bytes parted wrongly", p, err)
}

// The head of each frame, byte by byte, through turns with no, some and as
// many messages as a chain may have.
func TestP8Head(t *testing.T) {
	a, b := pair(t)
	secret, before := firstDraw(), 0
	for turn, count := range []int{2, 0, 1, sendBound, 0, 0, 3, 17} {
		for number := range count {
			frame := sends(t, a, "text")[0]
			want := publicOf(t, secret) + string([]byte{0, byte(before), 0, byte(number)})
			checkAnswer(t, "the head", frame[:36], nil, want)
			if len(frame) != 36+4+16 {
				t.Errorf("P8: a frame of %d bytes", len(frame))
			}
			gets(t, b, frame, "b"+strconv.Itoa(turn), "text")
		}
		if count == 0 {
			// Only a new chain of the other one makes a turn.
			b = restarted(t, a, turn)
		}
		gets(t, a, sends(t, b, "back")[0], "a"+strconv.Itoa(turn), "back")
		secret, before = hashOf("a"+strconv.Itoa(turn)), count
	}
}

// restarted is a party that begins a chain towards p without having got one,
// as the other one would with a root that p has.
func restarted(t *testing.T, p *Party, turn int) *Party {
	t.Helper()
	b, err := First(p.root, publicOf(t, p.secret), hashOf("again"+strconv.Itoa(turn)))
	if err != nil {
		t.Fatal(err)
	}
	return b
}

// Every number of a chain, with every length of text and of ad between them.
func TestP8FrameToTheLastByte(t *testing.T) {
	a, _ := pair(t)
	w, _ := twins(t)
	for i := range textBound + 1 {
		ad, text := pattern(i%(adBound+1)), pattern(i)
		want, wanted := w.send(ad, text)
		got, err := a.Send(ad, text)
		if got != want || err != wanted {
			t.Errorf("P8: Send of %d bytes = %x, %v, want %x, %v", i, got, err, want, wanted)
		}
		if i%sendBound == sendBound-1 {
			a, _ = First(root(), publicOf(t, ownSecret()), hashOf(text))
			w = firstTwin(t, root(), publicOf(t, ownSecret()), hashOf(text))
		}
	}
}

// sendRefusals: ErrLong comes ahead of what else is wrong with the party.
func sendRefusals(t *testing.T, p *Party, otherwise error) {
	t.Helper()
	send := func(ad int, text int, want error) {
		t.Helper()
		checkStill(t, p, want, func() (string, error) { return p.Send(pattern(ad), pattern(text)) })
	}
	for _, more := range []int{1, 2, 256, 65536} {
		send(adBound+more, 0, ErrLong)
		send(0, textBound+more, ErrLong)
		send(adBound, textBound+more, ErrLong)
		send(adBound+more, textBound, ErrLong)
		send(adBound+more, textBound+more, ErrLong)
	}
	if otherwise != nil {
		send(0, 0, otherwise)
		send(adBound, textBound, otherwise)
	}
}

func TestP8Refused(t *testing.T) {
	a, b := pair(t)
	sendRefusals(t, a, nil)
	sendRefusals(t, b, ErrNone)
	for i := range sendBound {
		frame, err := a.Send(pattern(adBound), pattern(textBound))
		if err != nil || frame[34:36] != string([]byte{0, byte(i)}) {
			t.Fatalf("P8: message %d = %x, %v", i, frame, err)
		}
	}
	sendRefusals(t, a, ErrFull)
	sendRefusals(t, a, ErrFull)
}

// A chain that is full is the end of neither the party nor what it gets.
func TestP8FullUntilTheTurn(t *testing.T) {
	a, b := pair(t)
	frames := sends(t, a, make([]string, sendBound)...)
	for _, frame := range frames {
		gets(t, b, frame, "b", "")
	}
	back := sends(t, b, "one", "two")
	sendRefusals(t, a, ErrFull)
	gets(t, a, back[0], "a", "one")
	frame := sends(t, a, "more")[0]
	if frame[32:36] != string([]byte{0, sendBound, 0, 0}) {
		t.Errorf("P8: behind a full chain: %x", frame[:36])
	}
	gets(t, a, back[1], "c", "two")
	gets(t, b, frame, "d", "more")
}

func TestP14CopySends(t *testing.T) {
	a, b := pair(t)
	for _, p := range []*Party{a, b} {
		c := p.Copy()
		if c == nil || c == p {
			t.Fatal("P14: Copy made no party")
		}
	}
	sends(t, a, "x")
	c := a.Copy()
	want := sends(t, a, "y", "z")
	d := c.Copy()
	checkSame(t, "a copy", sends(t, c, "y", "z"), want)
	checkSame(t, "a copy of a copy", sends(t, d, "y", "z"), want)
	checkStill(t, b.Copy(), ErrNone, func() (string, error) { return b.Send("", "") })
}

func checkSame(t *testing.T, call string, got []string, want []string) {
	t.Helper()
	for i := range want {
		checkAnswer(t, call, got[i], nil, want[i])
	}
}

// What the one gets, the other can still get: both chains and each kept key.
func TestP14CopyReceives(t *testing.T) {
	a, b := pair(t)
	frames := sends(t, a, "0", "1", "2", "3", "4", "5")
	gets(t, b, frames[2], "b", "2")
	c := b.Copy()
	for _, p := range []*Party{b, c} {
		gets(t, p, frames[0], "d", "0")
		gets(t, p, frames[5], "d", "5")
		for _, i := range []int{4, 1, 3} {
			gets(t, p, frames[i], "d", strconv.Itoa(i))
			getsNot(t, p, "", frames[i], hashOf("d"), ErrAuth)
		}
	}
	checkSame(t, "a copy", sends(t, c, "x"), sends(t, b, "x"))
}

// Both put other keys behind the same kept ones: none may lie where the other
// one's does, however many there are.
func TestP14CopyKeepsItsOwn(t *testing.T) {
	for size := range 14 {
		a, b := pair(t)
		frames := sends(t, a, make([]string, sendBound)...)
		for i := range size {
			gets(t, b, frames[2*i+1], "b", "")
		}
		c, next := b.Copy(), 2*size
		before := state(b)
		gets(t, c, frames[next+2], "b", "")
		checkState(t, b, before)
		before = state(c)
		gets(t, b, frames[next+1], "b", "")
		for i := range size + 1 {
			gets(t, b, frames[2*i], "b", "")
		}
		checkState(t, c, before)
		for i := range size + 1 {
			gets(t, c, frames[2*i], "b", "")
		}
		gets(t, c, frames[next+1], "b", "")
	}
}

// A turn of the one is none of the other.
func TestP14CopyTurns(t *testing.T) {
	a, b := pair(t)
	frame := sends(t, a, "x")[0]
	c := b.Copy()
	gets(t, b, frame, "one", "x")
	checkStill(t, c, ErrNone, func() (string, error) { return c.Send("", "") })
	gets(t, c, frame, "two", "x")
	one, two := sends(t, b, "y")[0], sends(t, c, "y")[0]
	if one[:32] != publicOf(t, hashOf("one")) || two[:32] != publicOf(t, hashOf("two")) {
		t.Errorf("P14: public keys %x and %x", one[:32], two[:32])
	}
	d := a.Copy()
	gets(t, a, one, "a", "y")
	gets(t, d, two, "a", "y")
	getsNot(t, a, "", two, hashOf("a"), ErrAuth)
	gets(t, b, sends(t, a, "z")[0], "b", "z")
	gets(t, c, sends(t, d, "z")[0], "b", "z")
}

// Parties that nobody made refuse, and do not panic.
func TestP1NoParties(t *testing.T) {
	if c := (*Party)(nil).Copy(); c != nil {
		t.Errorf("P1: a copy of no party is %v", c)
	}
	frame := sends(t, firstOf(t), "x")[0]
	for _, p := range []*Party{nil, {}, new(Party).Copy()} {
		got, err := p.Send("", "x")
		checkRefused(t, "Send of no party", got, err, ErrNone)
		got, err = p.Send(pattern(adBound+1), "x")
		checkRefused(t, "Send of no party", got, err, ErrLong)
		for _, bytes := range []string{frame, strings.Repeat("\x00", frameLeast), renumbered(frame, math.MaxUint16, math.MaxUint16)} {
			got, err = p.Receive("", bytes, hashOf("d"))
			checkRefused(t, "Receive of no party", got, err, ErrAuth)
		}
		got, err = p.Receive("", "", hashOf("d"))
		checkRefused(t, "Receive of no party", got, err, ErrForm)
	}
}

func firstOf(t *testing.T) *Party {
	t.Helper()
	a, _ := pair(t)
	return a
}
