package ratchet

import (
	"encoding/binary"
	"math/rand/v2"
	"reflect"
	"slices"
	"testing"
)

// root, ownSecret and firstDraw are what a test's two parties begin with.
func root() string      { return hashOf("root") }
func ownSecret() string { return hashOf("own") }
func firstDraw() string { return hashOf("draw") }

func publicOf(t *testing.T, secret string) string {
	t.Helper()
	return wantShared(t, secret, nine())
}

// pair makes the two parties, or ends the test.
func pair(t *testing.T) (*Party, *Party) {
	t.Helper()
	a, err := First(root(), publicOf(t, ownSecret()), firstDraw())
	if a == nil || err != nil {
		t.Fatalf("P7: First = %v, %v", a, err)
	}
	b, err := Second(root(), ownSecret())
	if b == nil || err != nil {
		t.Fatalf("P7: Second = %v, %v", b, err)
	}
	return a, b
}

func twins(t *testing.T) (*twin, *twin) {
	t.Helper()
	return firstTwin(t, root(), publicOf(t, ownSecret()), firstDraw()), secondTwin(t, root(), ownSecret())
}

// sends answers the frames of some texts, beside nothing.
func sends(t *testing.T, p *Party, texts ...string) []string {
	t.Helper()
	var frames []string
	for _, text := range texts {
		frame, err := p.Send("", text)
		if err != nil {
			t.Fatalf("P8: Send of %q: %v", text, err)
		}
		frames = append(frames, frame)
	}
	return frames
}

// gets: the party opens a frame that stands beside nothing.
func gets(t *testing.T, p *Party, frame string, draw string, want string) {
	t.Helper()
	got, err := p.Receive("", frame, hashOf(draw))
	checkAnswer(t, "Receive", got, err, want)
}

// state is all that a party has, for holding it against itself later.
func state(p *Party) Party {
	all := *p
	all.kept = slices.Clone(p.kept)
	return all
}

// checkStill: the call is refused with just the one error, and the party is as
// it was.
func checkStill(t *testing.T, p *Party, want error, call func() (string, error)) {
	t.Helper()
	before := state(p)
	got, err := call()
	checkRefused(t, "the call", got, err, want)
	checkState(t, p, before)
}

func checkState(t *testing.T, p *Party, want Party) {
	t.Helper()
	if !reflect.DeepEqual(state(p), want) {
		t.Error("the party is not as it was")
	}
}

// getsNot: the party does not open a frame, and is as it was.
func getsNot(t *testing.T, p *Party, ad string, frame string, draw string, want error) {
	t.Helper()
	checkStill(t, p, want, func() (string, error) { return p.Receive(ad, frame, draw) })
}

// side is a party with its twin, the frames that are on the way to them, and
// those that they were handed.
type side struct {
	party  *Party
	twin   *twin
	coming []string
	heard  []heard
}

// heard is a frame with what stood beside it, and what the twin made of it.
type heard struct {
	ad, frame, draw string
	want            answer
}

// talk lets chance choose what two sides do, and holds each answer of a party
// against that of its twin.
type talk struct {
	t      *testing.T
	chance *rand.Rand
	sides  [2]*side
	seen   map[error]int
}

func newTalk(t *testing.T, seed uint64) *talk {
	a, b := pair(t)
	c, d := twins(t)
	return &talk{t, rand.New(rand.NewPCG(seed, 1)), [2]*side{{party: a, twin: c}, {party: b, twin: d}}, map[error]int{}}
}

// same holds two answers against each other, and counts the error.
func (k *talk) same(call string, got string, err error, want string, wanted error) {
	k.t.Helper()
	if got != want || err != wanted {
		k.t.Fatalf("%s = %x, %v, want %x, %v", call, got, err, want, wanted)
	}
	k.seen[err]++
}

func (k *talk) ad() string {
	return pattern([]int{0, 0, 0, 0, 1, adBound, adBound + 1}[k.chance.IntN(7)])
}

func (k *talk) send(from int) {
	me, other := k.sides[from], k.sides[1-from]
	ad, text := k.ad(), pattern(k.chance.IntN(textBound+3))
	if k.chance.IntN(3) > 0 {
		ad = ""
	}
	want, wanted := me.twin.send(ad, text)
	got, err := me.party.Send(ad, text)
	k.same("Send", got, err, want, wanted)
	if err == nil && k.chance.IntN(8) > 0 {
		other.coming = append(other.coming, got)
	}
}

// lie is a frame that the sender's twin seals with numbers of its own choice,
// behind more messages than a party would send.
func (k *talk) lie(from int) {
	me, other := k.sides[from].twin, k.sides[1-from]
	if me.out == "" {
		return
	}
	number := max(0, me.sent+k.chance.IntN(25)-10)
	before := max(0, other.twin.got+k.chance.IntN(25)-10)
	other.coming = append(other.coming, me.told("", "a lie", before, number))
}

// next answers a frame that is coming, one of the last ones, and a draw; chance
// may spoil them. The frame stays there: it may be told again.
func (k *talk) next(me *side) (string, string) {
	frame := me.coming[len(me.coming)-1-k.chance.IntN(min(len(me.coming), 12))]
	draw := hashOf(pattern(k.chance.IntN(40)))
	switch k.chance.IntN(12) {
	case 0:
		frame = flipped(frame, k.chance.IntN(8*len(frame)))
	case 1:
		frame = renumbered(frame, k.chance.IntN(14), k.chance.IntN(50))
	case 2:
		frame = frame[:k.chance.IntN(len(frame))]
	case 3:
		frame += pattern(k.chance.IntN(80))
	case 4:
		draw = pattern(30 + k.chance.IntN(5))
	}
	return frame, draw
}

// hear hands some frames that are coming to a side's twin, all beside one ad.
func (k *talk) hear(me *side, count int) []heard {
	if len(me.coming) == 0 {
		return nil
	}
	ad, first := "", len(me.heard)
	if k.chance.IntN(6) == 0 {
		ad = k.ad()
	}
	for range count {
		frame, draw := k.next(me)
		text, err := me.twin.receive(ad, frame, draw)
		me.heard = append(me.heard, heard{ad, frame, draw, answer{text, err}})
	}
	return me.heard[first:]
}

func (k *talk) receive(to int) {
	me := k.sides[to]
	for _, h := range k.hear(me, 1) {
		got, err := me.party.Receive(h.ad, h.frame, h.draw)
		k.same("Receive", got, err, h.want.text, h.want.err)
	}
}

func (k *talk) batch(to int) {
	me := k.sides[to]
	if all := k.hear(me, 1+k.chance.IntN(batchBound)); len(all) > 0 {
		checkHeard(k.t, me.party, all)
	}
}

// copy goes on with the copy, and does something with the party that is left,
// or the other way round.
func (k *talk) copy(of int) {
	me := k.sides[of]
	left := &side{party: me.party.Copy(), twin: me.twin.copied(), coming: me.coming}
	if k.chance.IntN(2) > 0 {
		left.party, me.party = me.party, left.party
	}
	k.sides[of] = left
	k.receive(of)
	k.send(of)
	k.sides[of] = me
}

func renumbered(frame string, before int, number int) string {
	b := []byte(frame)
	binary.BigEndian.PutUint16(b[32:], uint16(before))
	binary.BigEndian.PutUint16(b[34:], uint16(number))
	return string(b)
}

func (k *talk) move(lies bool, batches bool) {
	who := k.chance.IntN(2)
	switch n := k.chance.IntN(21); {
	case n < 8:
		k.send(who)
	case n < 9:
		// A speech: else few chains would come to their ends.
		for range 4 {
			k.send(who)
		}
	case n < 18:
		k.receive(who)
	case n < 19 && batches:
		k.batch(who)
	case n < 20 && lies:
		k.lie(who)
	default:
		k.copy(who)
	}
}

// Whatever chance lets them do, parties answer what their twins do.
func TestP7ToP14Talks(t *testing.T) {
	seen := map[error]int{}
	for seed := range uint64(24) {
		k := newTalk(t, seed)
		for range 150 {
			k.move(seed%2 > 0, seed%4 > 1)
		}
		for err, n := range k.seen {
			seen[err] += n
		}
		k.again()
	}
	for _, err := range append(allErrors(), nil) {
		if seen[err] < 10 {
			t.Errorf("the talks met %v only %d times", err, seen[err])
		}
	}
}
