package ratchet

import (
	"errors"
	"math"
	"strings"
	"testing"
)

func allErrors() []error {
	return []error{ErrLong, ErrKey, ErrForm, ErrAuth, ErrSkip, ErrNone, ErrFull}
}

// isJust tells whether err is want, and none of the package's other errors.
func isJust(err error, want error) bool {
	for _, e := range allErrors() {
		if errors.Is(err, e) != (e == want) {
			return false
		}
	}
	return err != nil
}

// isOne tells whether err is just one of the package's errors.
func isOne(err error) bool {
	for _, e := range allErrors() {
		if isJust(err, e) {
			return true
		}
	}
	return false
}

func TestErrorsDiffer(t *testing.T) {
	for i, e := range allErrors() {
		if e == nil || e.Error() == "" {
			t.Errorf("the error number %d tells nothing", i)
		}
		for k, other := range allErrors() {
			if errors.Is(e, other) != (i == k) {
				t.Errorf("errors.Is of the errors number %d and %d", i, k)
			}
		}
	}
}

func TestFailureWraps(t *testing.T) {
	for at, why := range allErrors() {
		var err error = &Failure{At: at, Why: why}
		var found *Failure
		if !errors.As(err, &found) || found.At != at || found.Unwrap() != why {
			t.Errorf("errors.As of a Failure with %v found %v", why, found)
		}
		if !isJust(err, why) {
			t.Errorf("a Failure with %v is not just that", why)
		}
		if !strings.Contains(err.Error(), why.Error()) {
			t.Errorf("a Failure with %v tells %q", why, err.Error())
		}
	}
}

type sore struct{}

func (sore) Error() string { panic("sore") }

type uncomparable []int

func (uncomparable) Error() string { return "uncomparable" }

func TestFailureNeverPanics(t *testing.T) {
	own := &Failure{At: 1}
	own.Why = own
	for _, f := range []*Failure{nil, {}, own, {Why: sore{}}, {Why: uncomparable{1}}, {Why: (*Failure)(nil)}, {At: math.MinInt, Why: ErrLong}} {
		if f.Error() == "" {
			t.Error("a Failure tells nothing")
		}
		if why := f.Unwrap(); f == nil && why != nil {
			t.Errorf("no Failure answers %v", why)
		}
	}
	if own.Unwrap() != error(own) {
		t.Error("Unwrap does not answer Why")
	}
}

func oddStrings() []string {
	odd := []string{"", "\x00", "a", "\xff\xfe", "\xc3", "ß€𝄞", "%s%d%n", "seal", "ratchet"}
	for _, n := range []int{15, 16, 31, 32, 33, 63, 64, 65, 68, 69, 80, 81, 116, 117, 199, 200, 201, 256, 70000} {
		odd = append(odd, pattern(n), strings.Repeat("\x00", n), strings.Repeat("\xff", n))
	}
	return odd
}

func oddNumbers() []int {
	return []int{math.MinInt, math.MinInt + 1, math.MinInt32, -129, -1, 0, 1, 31, 32, 33, 127, 128, 129, 255, 256, math.MaxInt32, math.MaxInt - 1, math.MaxInt}
}

// checkP1: an answer comes with no error, or one of the errors with no answer.
func checkP1(t *testing.T, call string, got string, err error) {
	t.Helper()
	if err != nil && (got != "" || !isOne(err)) {
		t.Errorf("P1: %s = %x, %v", call, got, err)
	}
}

func TestP1Sums(t *testing.T) {
	for _, a := range oddStrings() {
		got, err := Hash(a)
		checkP1(t, "Hash", got, err)
		for _, b := range oddStrings() {
			got, err = Mac(a, b)
			checkP1(t, "Mac", got, err)
			for _, n := range oddNumbers() {
				got, err = Derive(a, b, a, n)
				checkP1(t, "Derive", got, err)
				if err == nil && len(got) != n {
					t.Errorf("P1: Derive of %d bytes made %d", n, len(got))
				}
			}
		}
	}
}

func TestP1Keys(t *testing.T) {
	for _, a := range oddStrings() {
		got, err := Public(a)
		checkP1(t, "Public", got, err)
		checkMade(t, "Public", got, err, 32)
		for _, b := range []string{"", a, pattern(32), pattern(64)} {
			got, err = Shared(a, b)
			checkP1(t, "Shared", got, err)
			checkMade(t, "Shared", got, err, 32)
			got, err = Shared(b, a)
			checkP1(t, "Shared", got, err)
			checkMade(t, "Shared", got, err, 32)
		}
	}
}

func TestP1Seals(t *testing.T) {
	for _, a := range oddStrings() {
		for _, b := range []string{"", a, pattern(32), pattern(64)} {
			for _, key := range []string{"", a, b, pattern(32), pattern(33)} {
				got, err := Seal(key, b, a)
				checkP1(t, "Seal", got, err)
				checkMade(t, "Seal", got, err, len(a)+16)
				got, err = Seal(key, a, b)
				checkP1(t, "Seal", got, err)
				checkMade(t, "Seal", got, err, len(b)+16)
				got, err = Open(key, b, a)
				checkP1(t, "Open", got, err)
				got, err = Open(key, a, b)
				checkP1(t, "Open", got, err)
			}
		}
	}
}

// checkMade: what is answered has the length that it owes.
func checkMade(t *testing.T, call string, got string, err error, want int) {
	t.Helper()
	if err == nil && len(got) != want {
		t.Errorf("P1: %s made %d bytes, want %d", call, len(got), want)
	}
}

func TestP1Parties(t *testing.T) {
	for _, a := range append(oddStrings(), pattern(32)) {
		first, err := First(a, a, pattern(32))
		if err != nil && (first != nil || !isOne(err)) {
			t.Errorf("P1: First = %v, %v", first, err)
		}
		second, err := Second(a, a)
		if err != nil && (second != nil || !isOne(err)) {
			t.Errorf("P1: Second = %v, %v", second, err)
		}
		if err == nil {
			useParty(t, first, a)
			useParty(t, second, a)
		}
	}
}

func useParty(t *testing.T, p *Party, s string) {
	t.Helper()
	p.Copy()
	got, err := p.Send(s, s)
	checkP1(t, "Send", got, err)
	got, err = p.Receive(s, s, s)
	checkP1(t, "Receive", got, err)
	for n := range 10 {
		frames, draws := make([]string, n), make([]string, n)
		p.Batch(s, frames, draws)
		p.Batch(s, frames, nil)
		p.Batch(s, nil, draws)
		if strings.Join(frames, "")+strings.Join(draws, "") != "" {
			t.Error("P1: Batch changed a list that it was handed")
		}
	}
}

type answer struct {
	text string
	err  error
}

// sumAnswers tells what the sums answer, each at a few arguments.
func sumAnswers() []answer {
	var all []answer
	keep := func(text string, err error) { all = append(all, answer{text, err}) }
	for _, s := range oddStrings() {
		keep(Hash(s))
		keep(Mac(s, "data"))
		keep(Mac("key", s))
		keep(Derive(s, "key", "info", 70))
		keep(Derive("salt", s, "info", 128))
		keep(Derive("salt", "key", s, 129))
	}
	keepKeyAnswers(keep)
	return all
}

// keepKeyAnswers hands over what the calls that take keys answer.
func keepKeyAnswers(keep func(string, error)) {
	key := hashOf("key")
	for _, s := range []string{"", pattern(31), pattern(32), pattern(64), pattern(68), pattern(81)} {
		keep(Public(s))
		keep(Shared(s, key))
		keep(Shared(key, s))
		keep(Seal(key, s, "text"))
		keep(Seal(key, "ad", s))
		keep(Seal(s, "ad", "text"))
		sealed, _ := Seal(key, s, "text")
		keep(Open(key, s, sealed))
		keep(Open(key, s+"x", sealed))
		keep(Open(key, "ad", s))
	}
}

func TestP2SameAnswerBehindOthers(t *testing.T) {
	before := sumAnswers()
	for i := range 50 {
		Hash(pattern(i))
		Mac(pattern(4*i), pattern(5*i))
		Derive(pattern(i), pattern(5*i), pattern(i), 3*i)
		Public(pattern(i))
		Shared(hashOf(pattern(i)), hashOf(pattern(2*i)))
		sealed, _ := Seal(hashOf(pattern(i)), pattern(2*i), pattern(i))
		Open(hashOf(pattern(i)), pattern(2*i), sealed)
		Open(hashOf("key"), pattern(2*i), sealed)
	}
	for i, a := range sumAnswers() {
		if a != before[i] {
			t.Errorf("P2: the answer number %d was %x, %v, and is %x, %v", i, before[i].text, before[i].err, a.text, a.err)
		}
	}
}

func TestP2SameAnswerAtTheSameTime(t *testing.T) {
	want := sumAnswers()
	answers := make(chan []answer)
	for range 8 {
		go func() { answers <- sumAnswers() }()
	}
	for range 8 {
		for i, a := range <-answers {
			if a != want[i] {
				t.Errorf("P2: the answer number %d is %x, %v beside others", i, a.text, a.err)
			}
		}
	}
}
