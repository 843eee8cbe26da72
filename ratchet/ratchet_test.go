package ratchet

import (
	"errors"
	"math"
	"reflect"
	"slices"
	"strings"
	"testing"
)

func allErrors() []error {
	return []error{ErrLong, ErrKey, ErrForm, ErrAuth, ErrSkip, ErrNone, ErrFull}
}

// isJust tells whether err is want, and none of the package's other errors.
func isJust(err error, want error) bool {
	for _, e := range allErrors() {
		if errors.Is(err, e) != (e == want) {
			return false
		}
	}
	return err != nil
}

// isOne tells whether err is just one of the package's errors.
func isOne(err error) bool {
	for _, e := range allErrors() {
		if isJust(err, e) {
			return true
		}
	}
	return false
}

func TestErrorsDiffer(t *testing.T) {
	for i, e := range allErrors() {
		if e == nil || e.Error() == "" {
			t.Errorf("the error number %d tells nothing", i)
		}
		for k, other := range allErrors() {
			if errors.Is(e, other) != (i == k) {
				t.Errorf("errors.Is of the errors number %d and %d", i, k)
			}
		}
	}
}

func TestFailureWraps(t *testing.T) {
	for at, why := range allErrors() {
		var err error = &Failure{At: at, Why: why}
		var found *Failure
		if !errors.As(err, &found) || found.At != at || found.Unwrap() != why {
			t.Errorf("errors.As of a Failure with %v found %v", why, found)
		}
		if !isJust(err, why) {
			t.Errorf("a Failure with %v is not just that", why)
		}
		if !strings.Contains(err.Error(), why.Error()) {
			t.Errorf("a Failure with %v tells %q", why, err.Error())
		}
	}
}

type sore struct{}

func (sore) Error() string { panic("sore") }

type uncomparable []int

func (uncomparable) Error() string { return "uncomparable" }

func TestFailureNeverPanics(t *testing.T) {
	own := &Failure{At: 1}
	own.Why = own
	for _, f := range []*Failure{nil, {}, own, {Why: sore{}}, {Why: uncomparable{1}}, {Why: (*Failure)(nil)}, {At: math.MinInt, Why: ErrLong}} {
		if f.Error() == "" {
			t.Error("a Failure tells nothing")
		}
		if why := f.Unwrap(); f == nil && why != nil {
			t.Errorf("no Failure answers %v", why)
		}
	}
	if own.Unwrap() != error(own) {
		t.Error("Unwrap does not answer Why")
	}
}

func oddStrings() []string {
	odd := []string{"", "\x00", "a", "\xff\xfe", "\xc3", "ß€𝄞", "%s%d%n", "seal", "ratchet"}
	for _, n := range []int{15, 16, 31, 32, 33, 63, 64, 65, 68, 69, 80, 81, 116, 117, 199, 200, 201, 256, 70000} {
		odd = append(odd, pattern(n), strings.Repeat("\x00", n), strings.Repeat("\xff", n))
	}
	return odd
}

func oddNumbers() []int {
	return []int{math.MinInt, math.MinInt + 1, math.MinInt32, -129, -1, 0, 1, 31, 32, 33, 127, 128, 129, 255, 256, math.MaxInt32, math.MaxInt - 1, math.MaxInt}
}

// checkP1: an answer comes with no error, or one of the errors with no answer.
func checkP1(t *testing.T, call string, got string, err error) {
	t.Helper()
	if err != nil && (got != "" || !isOne(err)) {
		t.Errorf("P1: %s = %x, %v", call, got, err)
	}
}

func TestP1Sums(t *testing.T) {
	for _, a := range oddStrings() {
		got, err := Hash(a)
		checkP1(t, "Hash", got, err)
		for _, b := range oddStrings() {
			got, err = Mac(a, b)
			checkP1(t, "Mac", got, err)
			for _, n := range oddNumbers() {
				got, err = Derive(a, b, a, n)
				checkP1(t, "Derive", got, err)
				if err == nil && len(got) != n {
					t.Errorf("P1: Derive of %d bytes made %d", n, len(got))
				}
			}
		}
	}
}

func TestP1Keys(t *testing.T) {
	for _, a := range oddStrings() {
		got, err := Public(a)
		checkP1(t, "Public", got, err)
		checkMade(t, "Public", got, err, 32)
		for _, b := range []string{"", a, pattern(32), pattern(64)} {
			got, err = Shared(a, b)
			checkP1(t, "Shared", got, err)
			checkMade(t, "Shared", got, err, 32)
			got, err = Shared(b, a)
			checkP1(t, "Shared", got, err)
			checkMade(t, "Shared", got, err, 32)
		}
	}
}

func TestP1Seals(t *testing.T) {
	for _, a := range oddStrings() {
		for _, b := range []string{"", a, pattern(32), pattern(64)} {
			for _, key := range []string{"", a, b, pattern(32), pattern(33)} {
				got, err := Seal(key, b, a)
				checkP1(t, "Seal", got, err)
				checkMade(t, "Seal", got, err, len(a)+16)
				got, err = Seal(key, a, b)
				checkP1(t, "Seal", got, err)
				checkMade(t, "Seal", got, err, len(b)+16)
				got, err = Open(key, b, a)
				checkP1(t, "Open", got, err)
				got, err = Open(key, a, b)
				checkP1(t, "Open", got, err)
			}
		}
	}
}

// checkMade: what is answered has the length that it owes.
func checkMade(t *testing.T, call string, got string, err error, want int) {
	t.Helper()
	if err == nil && len(got) != want {
		t.Errorf("P1: %s made %d bytes, want %d", call, len(got), want)
	}
}

func TestP1Parties(t *testing.T) {
	a, b := pair(t)
	c, _, frames := behind(t)
	for _, s := range append(oddStrings(), frames...) {
		first, err := First(s, s, pattern(32))
		if (err != nil) != (first == nil) || err != nil && !isOne(err) {
			t.Errorf("P1: First = %v, %v", first, err)
		}
		second, err := Second(s, pattern(32))
		if (err != nil) != (second == nil) || err != nil && !isOne(err) {
			t.Errorf("P1: Second = %v, %v", second, err)
		}
		for _, p := range []*Party{first, second, a.Copy(), b.Copy(), c.Copy()} {
			useParty(t, p, s)
		}
	}
}

// useParty hands a string to each call in each place.
func useParty(t *testing.T, p *Party, s string) {
	t.Helper()
	for _, c := range [][2]string{{s, ""}, {"", s}, {s, s}} {
		checkMoves(t, p, func() (string, error) { return p.Send(c[0], c[1]) })
	}
	key, frame := pattern(32), pattern(52)
	for _, c := range [][3]string{{s, frame, key}, {"", s, key}, {"", frame, s}, {s, s, key}, {s, frame, s}, {"", s, s}, {s, s, s}} {
		checkMoves(t, p, func() (string, error) { return p.Receive(c[0], c[1], c[2]) })
	}
	useBatch(t, p, s)
}

// useBatch hands a string to Batch in each place, in lists of many lengths.
func useBatch(t *testing.T, p *Party, s string) {
	t.Helper()
	frames := slices.Repeat([]string{s, pattern(52), s, pattern(52)}, 3)
	draws := slices.Repeat([]string{pattern(32), s, s, pattern(32)}, 3)
	for _, ad := range []string{"", s} {
		for _, n := range []int{1, 2, 4, 7, 8} {
			if p == nil {
				batched(t, p, ad, frames[:n], draws[:n])
			} else {
				checkAlike(t, p, ad, frames[:n], draws[:n])
			}
		}
		for n := range frames {
			p.Batch(ad, frames[:n], nil)
			p.Batch(ad, frames[:n], draws)
			p.Batch(ad, nil, draws[:n])
		}
	}
}

// checkMoves: with an error the party is as it was, with none it is not.
func checkMoves(t *testing.T, p *Party, call func() (string, error)) {
	t.Helper()
	if p == nil {
		got, err := call()
		checkP1(t, "a call of no party", got, err)
		return
	}
	before := state(p)
	got, err := call()
	checkP1(t, "a party's call", got, err)
	if (err != nil) != reflect.DeepEqual(before, state(p)) {
		t.Errorf("P1: with the error %v the party moved, or without one it did not", err)
	}
}

type answer struct {
	text string
	err  error
}

// sumAnswers tells what the sums answer, each at a few arguments.
func sumAnswers() []answer {
	var all []answer
	keep := func(text string, err error) { all = append(all, answer{text, err}) }
	for _, s := range oddStrings() {
		keep(Hash(s))
		keep(Mac(s, "data"))
		keep(Mac("key", s))
		keep(Derive(s, "key", "info", 70))
		keep(Derive("salt", s, "info", 128))
		keep(Derive("salt", "key", s, 129))
	}
	keepKeyAnswers(keep)
	keepPartyAnswers(keep, func(*Party) {})
	return all
}

// keepKeyAnswers hands over what the calls that take keys answer.
func keepKeyAnswers(keep func(string, error)) {
	key := hashOf("key")
	for _, s := range []string{"", pattern(31), pattern(32), pattern(64), pattern(68), pattern(81)} {
		keep(Public(s))
		keep(Shared(s, key))
		keep(Shared(key, s))
		keep(Seal(key, s, "text"))
		keep(Seal(key, "ad", s))
		keep(Seal(s, "ad", "text"))
		sealed, _ := Seal(key, s, "text")
		keep(Open(key, s, sealed))
		keep(Open(key, s+"x", sealed))
		keep(Open(key, "ad", s))
	}
}

// keepPartyAnswers hands over what two parties answer, and lets something
// happen behind each call.
func keepPartyAnswers(keep func(string, error), between func(*Party)) {
	public, _ := Public(hashOf("4"))
	a, _ := First(hashOf("3"), public, hashOf("5"))
	b, _ := Second(hashOf("3"), hashOf("4"))
	var frames []string
	send := func(p *Party, ad string, text string) {
		frame, err := p.Send(ad, text)
		frames = append(frames, frame)
		keep(frame, err)
		between(p)
	}
	receive := func(p *Party, ad string, at int) {
		keep(p.Receive(ad, frames[at], hashOf(ad)))
		between(p)
	}
	for turn := range 4 {
		frames = nil
		send(b, "", "early")
		send(a, "", "1")
		send(a, "ad", "2")
		send(a, "ad", pattern(textBound+turn))
		receive(b, "ad", 2)
		receive(b, "ad", 2)
		b = b.Copy()
		receive(b, "", 1)
		receive(a, "", 1)
		a, b = b, a
	}
}

func TestP2SameAnswerBetweenOthers(t *testing.T) {
	var before []answer
	keepPartyAnswers(func(text string, err error) { before = append(before, answer{text, err}) }, func(*Party) {})
	c, d := pair(t)
	at := 0
	keep := func(text string, err error) {
		if before[at] != (answer{text, err}) {
			t.Errorf("P2: the answer number %d was %x, %v, and is %x, %v", at, before[at].text, before[at].err, text, err)
		}
		at++
	}
	keepPartyAnswers(keep, func(p *Party) {
		other := p.Copy()
		other.Send("", "other")
		other.Receive("", frameOf(c), hashOf("d"))
		d.Receive("", frameOf(c), hashOf("d"))
		c.Receive("", frameOf(d), hashOf("c"))
		c.Receive("", frameOf(other), hashOf("c"))
	})
	if at != len(before) {
		t.Errorf("P2: %d answers, want %d", at, len(before))
	}
}

func frameOf(p *Party) string {
	frame, _ := p.Send("", "some text")
	return frame
}

func TestP2SameAnswerBehindOthers(t *testing.T) {
	before := sumAnswers()
	for i := range 50 {
		Hash(pattern(i))
		Mac(pattern(4*i), pattern(5*i))
		Derive(pattern(i), pattern(5*i), pattern(i), 3*i)
		Public(pattern(i))
		Shared(hashOf(pattern(i)), hashOf(pattern(2*i)))
		sealed, _ := Seal(hashOf(pattern(i)), pattern(2*i), pattern(i))
		Open(hashOf(pattern(i)), pattern(2*i), sealed)
		Open(hashOf("key"), pattern(2*i), sealed)
	}
	for i, a := range sumAnswers() {
		if a != before[i] {
			t.Errorf("P2: the answer number %d was %x, %v, and is %x, %v", i, before[i].text, before[i].err, a.text, a.err)
		}
	}
}

func TestP2SameAnswerAtTheSameTime(t *testing.T) {
	want := sumAnswers()
	answers := make(chan []answer)
	for range 8 {
		go func() { answers <- sumAnswers() }()
	}
	for range 8 {
		for i, a := range <-answers {
			if a != want[i] {
				t.Errorf("P2: the answer number %d is %x, %v beside others", i, a.text, a.err)
			}
		}
	}
}
