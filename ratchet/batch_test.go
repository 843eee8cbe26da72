package ratchet

import (
	"math/rand/v2"
	"runtime"
	"slices"
	"strconv"
	"sync"
	"testing"
	"time"
)

// whyOf looks at the error of the frame number at, and answers its reason.
func whyOf(t *testing.T, at int, err error) error {
	t.Helper()
	if err == nil {
		return nil
	}
	f, is := err.(*Failure)
	if !is || f == nil {
		t.Fatalf("P13: the error of frame %d is %T, no Failure", at, err)
	}
	if f.At != at || !slices.Contains(allErrors(), f.Why) || !isJust(err, f.Why) {
		t.Errorf("P13: the error of frame %d is At %d with %v", at, f.At, f.Why)
	}
	return f.Why
}

// batched answers what a batch does, frame by frame, and looks at the lists
// behind the call: to their ends, and beyond them.
func batched(t *testing.T, p *Party, ad string, frames []string, draws []string) []answer {
	t.Helper()
	handed := [2][]string{append(slices.Clone(frames), "end"), append(slices.Clone(draws), "end")}
	still := [2][]string{slices.Clone(handed[0]), slices.Clone(handed[1])}
	texts, errs := p.Batch(ad, handed[0][:len(frames)], handed[1][:len(draws)])
	if len(texts) != len(frames) || len(errs) != len(frames) {
		t.Fatalf("P13: %d texts and %d errors of %d frames", len(texts), len(errs), len(frames))
	}
	var all []answer
	for i, text := range texts {
		all = append(all, answer{text, whyOf(t, i, errs[i])})
		texts[i] = "other"
	}
	if !slices.Equal(handed[0], still[0]) || !slices.Equal(handed[1], still[1]) {
		t.Error("P1: a list that was handed in is not as it was")
	}
	return all
}

func checkBatch(t *testing.T, p *Party, ad string, frames []string, draws []string, want []answer) {
	t.Helper()
	for i, got := range batched(t, p, ad, frames, draws) {
		if got != want[i] {
			t.Errorf("P13: frame %d of %d = %q, %v, want %q, %v", i, len(frames), got.text, got.err, want[i].text, want[i].err)
		}
	}
}

func oneByOne(p *Party, ad string, frames []string, draws []string) []answer {
	var all []answer
	for i, frame := range frames {
		text, err := p.Receive(ad, frame, draws[i])
		all = append(all, answer{text, err})
	}
	return all
}

// checkAlike: a batch answers what Receive does on a copy, one frame behind the
// other, and the party goes on as the copy does.
func checkAlike(t *testing.T, p *Party, ad string, frames []string, draws []string) {
	t.Helper()
	alone := p.Copy()
	want := oneByOne(alone, ad, frames, draws)
	checkBatch(t, p, ad, frames, draws, want)
	checkState(t, p, state(alone))
}

// checkHeard: a batch of frames with one ad answers what the twin did.
func checkHeard(t *testing.T, p *Party, all []heard) {
	t.Helper()
	var frames, draws []string
	var want []answer
	for _, h := range all {
		frames, draws, want = append(frames, h.frame), append(draws, h.draw), append(want, h.want)
	}
	checkBatch(t, p, all[0].ad, frames, draws, want)
}

// again hands to new parties, in batches as large as can be, what the sides
// heard: a batch spans turns then that were far from each other.
func (k *talk) again() {
	k.t.Helper()
	a, b := pair(k.t)
	for i, p := range []*Party{a, b} {
		for left := k.sides[i].heard; len(left) > 0; {
			n := 1
			for n < min(len(left), batchBound) && left[n].ad == left[0].ad {
				n++
			}
			checkHeard(k.t, p, left[:n])
			left = left[n:]
		}
		checkKept(k.t, p, k.sides[i].twin)
	}
}

// someDraws are keys, each another one.
func someDraws(n int) []string {
	var draws []string
	for _, name := range numbered(n) {
		draws = append(draws, hashOf("draw "+name))
	}
	return draws
}

func picked(frames []string, numbers ...int) []string {
	var some []string
	for _, i := range numbers {
		some = append(some, frames[i])
	}
	return some
}

// turned is a party, and a batch for it of four chains with two frames each. A
// chain can begin only behind that ahead of it; any frame of it may begin it.
func turned(t *testing.T) (*Party, []string, []string) {
	t.Helper()
	a, b := pair(t)
	ahead := b.Copy()
	var frames, draws []string
	for _, turn := range numbered(4) {
		frames = append(frames, sends(t, a, turn+" first", turn+" second")...)
		draws = append(draws, hashOf(turn), hashOf(turn))
		gets(t, ahead, frames[len(frames)-2], turn, turn+" first")
		gets(t, a, sends(t, ahead, "back")[0], "back "+turn, "back")
	}
	return b, frames, draws
}

// spoilt is a frame and its draw with something wrong, and why it is refused.
func spoilt(frame string, draw string, how int) (string, string, error) {
	switch how {
	case 0:
		return flipped(frame, 8*len(frame)-1), draw, ErrAuth
	case 1:
		return frame[:frameLeast-1], draw, ErrForm
	case 2:
		return frame + pattern(frameBound), draw, ErrLong
	case 3:
		return frame, draw[1:], ErrKey
	case 4:
		return renumbered(frame, 0, 60000), draw, ErrSkip
	}
	return frame, draw, nil
}

const spoilWays = 5

// With frames that a party would open, so that it shows if any is.
func TestP13TooMany(t *testing.T) {
	a, _ := pair(t)
	frames, draws := sends(t, a, numbered(20)...), someDraws(20)
	for _, c := range [][2]int{{9, 9}, {10, 10}, {16, 16}, {20, 20}, {9, 8}, {9, 0}, {8, 9}, {8, 7}, {8, 0}, {2, 1}, {1, 2}, {1, 0}, {0, 1}, {0, 8}, {0, 9}, {0, 20}} {
		for _, ad := range []string{"", pattern(adBound), pattern(adBound + 1)} {
			_, b := pair(t)
			before := state(b)
			texts, errs := b.Batch(ad, frames[:c[0]], draws[:c[1]])
			if texts != nil || len(errs) != 1 || whyOf(t, 0, errs[0]) != ErrLong {
				t.Errorf("P13: %d frames and %d draws = %q, %v", c[0], c[1], texts, errs)
			}
			checkState(t, b, before)
		}
	}
}

// Too many come ahead of what is wrong with each of them.
func TestP13TooManyWrong(t *testing.T) {
	_, b := pair(t)
	for _, c := range [][2]int{{9, 9}, {2, 1}, {0, 1}, {1, 0}, {100, 3}, {65536, 65536}} {
		texts, errs := b.Batch("", make([]string, c[0]), make([]string, c[1]))
		if texts != nil || len(errs) != 1 || whyOf(t, 0, errs[0]) != ErrLong {
			t.Errorf("P13: %d frames and %d draws = %q, %v", c[0], c[1], texts, errs)
		}
	}
}

func TestP13None(t *testing.T) {
	b, a, _ := behind(t)
	second, _ := Second(root(), ownSecret())
	for _, p := range []*Party{a, b, second} {
		before := state(p)
		for _, ad := range []string{"", pattern(adBound + 1)} {
			for _, c := range [][2][]string{{nil, nil}, {{}, nil}, {nil, {}}, {{}, {}}} {
				if texts, errs := p.Batch(ad, c[0], c[1]); len(texts) != 0 || len(errs) != 0 {
					t.Errorf("P13: no frames = %q, %v", texts, errs)
				}
			}
		}
		checkState(t, p, before)
	}
}

// As many as there may be, and each number below.
func TestP13Opened(t *testing.T) {
	p, frames, draws := turned(t)
	var want []answer
	for _, turn := range numbered(4) {
		want = append(want, answer{turn + " first", nil}, answer{turn + " second", nil})
	}
	for n := 1; n <= batchBound; n++ {
		checkBatch(t, p.Copy(), "", frames[:n], draws[:n], want)
		checkAlike(t, p.Copy(), "", frames[:n], draws[:n])
	}
}

func TestP13Beside(t *testing.T) {
	for _, ad := range []string{"ad", pattern(adBound)} {
		a, b := pair(t)
		var frames []string
		for _, beside := range []string{ad, "", ad + "x", ad, "x" + ad[1:]} {
			frame, _ := a.Send(beside[:min(len(beside), adBound)], beside)
			frames = append(frames, frame)
		}
		frames[2] = flipped(frames[2], 400)
		checkBatch(t, b, ad, frames, someDraws(5), []answer{{ad, nil}, {"", ErrAuth}, {"", ErrAuth}, {ad, nil}, {"", ErrAuth}})
	}
	p, frames, draws := turned(t)
	before := state(p)
	checkBatch(t, p, pattern(adBound+1), frames, draws, slices.Repeat([]answer{{"", ErrLong}}, batchBound))
	checkState(t, p, before)
}

// Frames of one chain that are late, lost or told twice.
func TestP13LateLostTwice(t *testing.T) {
	a, b := pair(t)
	frames := sends(t, a, numbered(sendBound)...)
	for _, c := range []struct {
		numbers []int
		refused map[int]error // By place.
	}{
		{[]int{7, 6, 5, 4, 3, 2, 1, 0}, nil},
		{[]int{3, 1, 0, 2, 7, 5, 4, 6}, nil},
		{[]int{0, 2, 4, 6, 8, 10, 12, 14}, nil},
		{[]int{2, 2, 0, 0, 1, 1, 2, 0}, map[int]error{1: ErrAuth, 3: ErrAuth, 5: ErrAuth, 6: ErrAuth, 7: ErrAuth}},
		{[]int{5, 5, 5, 5, 5, 5, 5, 5}, map[int]error{1: ErrAuth, 2: ErrAuth, 3: ErrAuth, 4: ErrAuth, 5: ErrAuth, 6: ErrAuth, 7: ErrAuth}},
		{[]int{11, 10, 22, 21, 3, 4, 11, 20}, map[int]error{0: ErrSkip, 2: ErrSkip, 4: ErrAuth}},
		{[]int{12, 1, 12, 13, 11, 13}, map[int]error{0: ErrSkip, 5: ErrAuth}},
		// Behind 10 and 21 the first four of twenty kept keys have gone.
		{[]int{10, 21, 3, 4, 20, 0, 9, 4}, map[int]error{2: ErrAuth, 5: ErrAuth, 7: ErrAuth}},
	} {
		var want []answer
		for place, i := range c.numbers {
			want = append(want, answer{strconv.Itoa(i), nil})
			if err := c.refused[place]; err != nil {
				want[place] = answer{"", err}
			}
		}
		checkBatch(t, b.Copy(), "", picked(frames, c.numbers...), someDraws(len(c.numbers)), want)
		checkAlike(t, b.Copy(), "", picked(frames, c.numbers...), someDraws(len(c.numbers)))
	}
}

// What is told of a frame hangs on those ahead of it, opened or not.
func TestP13HangsOnThoseAhead(t *testing.T) {
	a, b := pair(t)
	frames := sends(t, a, numbered(sendBound)...)
	bad := func(i int) string { return flipped(frames[i], 8*len(frames[i])-1) }
	for _, c := range []struct {
		frames []string
		want   []answer
	}{
		{[]string{bad(5), frames[15]}, []answer{{"", ErrAuth}, {"", ErrSkip}}},
		{[]string{frames[5], frames[15]}, []answer{{"5", nil}, {"15", nil}}},
		{[]string{bad(3), frames[3], frames[3]}, []answer{{"", ErrAuth}, {"3", nil}, {"", ErrAuth}}},
		{[]string{frames[3], bad(3), frames[2], bad(1), bad(1), frames[1]}, []answer{{"3", nil}, {"", ErrAuth}, {"2", nil}, {"", ErrAuth}, {"", ErrAuth}, {"1", nil}}},
		{[]string{frames[10], bad(21), frames[0], frames[21], frames[1], frames[2]}, []answer{{"10", nil}, {"", ErrAuth}, {"0", nil}, {"21", nil}, {"", ErrAuth}, {"", ErrAuth}}},
		{[]string{frames[10], bad(21), bad(0), "", frames[0], frames[20], frames[20]}, []answer{{"10", nil}, {"", ErrAuth}, {"", ErrAuth}, {"", ErrForm}, {"0", nil}, {"20", nil}, {"", ErrAuth}}},
	} {
		checkBatch(t, b.Copy(), "", c.frames, someDraws(len(c.frames)), c.want)
		checkAlike(t, b.Copy(), "", c.frames, someDraws(len(c.frames)))
	}
}

// Keys that are kept from before, of two chains.
func TestP13Kept(t *testing.T) {
	b, _, frames := behind(t)
	bad := flipped(frames[0], 400)
	list := []string{bad, frames[0], frames[0], frames[5], frames[3], frames[2], bad, frames[4]}
	want := []answer{{"", ErrAuth}, {"0", nil}, {"", ErrAuth}, {"5", nil}, {"3", nil}, {"2", nil}, {"", ErrAuth}, {"", ErrAuth}}
	checkBatch(t, b.Copy(), "", list, someDraws(8), want)
	checkAlike(t, b, "", list, someDraws(8))
	losesAll(t, b, frames, from(0, 5)...)
}

// Each way in which a frame may be wrong, at each place.
func TestP13OneWrong(t *testing.T) {
	p, frames, draws := turned(t)
	for at := range frames {
		for how := range spoilWays {
			list, keys := slices.Clone(frames), slices.Clone(draws)
			var why error
			list[at], keys[at], why = spoilt(frames[at], draws[at], how)
			q := p.Copy()
			got := batched(t, q, "", list, keys)
			for i, g := range got {
				if (i == at) != (g.err != nil) || i == at && g != (answer{"", why}) {
					t.Errorf("P13: frame %d = %v, where %d is refused with %v", i, g, at, why)
				}
			}
			checkAlike(t, p.Copy(), "", list, keys)
			if why != ErrKey && at%2 > 0 {
				gets(t, q, frames[at], "late", strconv.Itoa(at/2)+" second")
			}
		}
	}
}

// Every choice of frames that cannot be opened: the first, the last, all.
func TestP13EveryChoiceNotOpened(t *testing.T) {
	p, frames, draws := turned(t)
	for choice := range 1 << batchBound {
		list := slices.Clone(frames)
		for i := range list {
			if choice>>i&1 > 0 {
				list[i] = flipped(list[i], 8*len(list[i])-1)
			}
		}
		checkAlike(t, p.Copy(), "", list, draws)
	}
}

// Several at once, each wrong in its own way, and in any order.
func TestP13SeveralWrong(t *testing.T) {
	chance := rand.New(rand.NewPCG(13, 13))
	p, frames, draws := turned(t)
	seen := map[error]int{}
	for range 120 {
		var list, keys []string
		for i := range batchBound {
			at := min(batchBound-1, max(0, i+chance.IntN(5)-2))
			frame, key, _ := spoilt(frames[at], draws[at], chance.IntN(3*spoilWays))
			list, keys = append(list, frame), append(keys, key)
		}
		for _, a := range oneByOne(p.Copy(), "", list, keys) {
			seen[a.err]++
		}
		checkAlike(t, p.Copy(), "", list, keys)
	}
	for _, err := range []error{nil, ErrAuth, ErrForm, ErrLong, ErrKey, ErrSkip} {
		if seen[err] < 20 {
			t.Errorf("%v came only %d times", err, seen[err])
		}
	}
}

// Behind a batch a party sends, receives and keeps as one that had no batch.
func TestP13GoesOn(t *testing.T) {
	p, frames, draws := turned(t)
	for first := range batchBound {
		a, b := pair(t)
		c, d := b.Copy(), b.Copy()
		list := slices.Clone(frames)
		list[first] = flipped(list[first], 400)
		oneByOne(c, "", list, draws)
		batched(t, d, "", list, draws)
		checkSame(t, "Send behind a batch", sends(t, d, "x", "y"), sends(t, c, "x", "y"))
		for _, frame := range append(sends(t, a, "more", "still more"), frames...) {
			want, wanted := c.Receive("", frame, hashOf("on"))
			got, err := d.Receive("", frame, hashOf("on"))
			if got != want || err != wanted {
				t.Errorf("P13: behind a batch Receive = %q, %v, want %q, %v", got, err, want, wanted)
			}
		}
		checkState(t, d, state(c))
	}
	batched(t, p, "", frames[:3], draws[:3])
	checkBatch(t, p, "", frames[3:], draws[3:], []answer{{"1 second", nil}, {"2 first", nil}, {"2 second", nil}, {"3 first", nil}, {"3 second", nil}})
}

// A copy is nothing to the party whose batch it is, and the other way round.
func TestP13Copies(t *testing.T) {
	p, frames, draws := turned(t)
	batched(t, p, "", picked(frames, 1), draws[1:2])
	c, before := p.Copy(), state(p)
	checkAlike(t, c, "", frames, draws)
	checkState(t, p, before)
	before = state(c)
	checkAlike(t, p, "", frames, draws)
	checkState(t, c, before)
}

// No list is kept, and none is answered twice.
func TestP1BatchLists(t *testing.T) {
	p, frames, draws := turned(t)
	q := p.Copy()
	handed := [2][]string{slices.Clone(frames[:5]), slices.Clone(draws[:5])}
	handed[0][1] = "no frame"
	texts, errs := p.Batch("", handed[0], handed[1])
	kept := slices.Clone(texts)
	for i := range handed[0] {
		handed[0][i], handed[1][i] = "other", "other"
	}
	if !slices.Equal(texts, kept) {
		t.Error("P1: the texts are in a list that was handed in")
	}
	errs[1].(*Failure).At = 77
	errs[0] = ErrFull
	texts[0] = "other"
	want := []answer{{"0 first", nil}, {"", ErrForm}, {"1 first", nil}, {"1 second", nil}, {"2 first", nil}}
	checkBatch(t, q, "", []string{frames[0], "no frame", frames[2], frames[3], frames[4]}, draws[:5], want)
	checkState(t, p, state(q))
	checkAlike(t, p, "", frames, draws)
}

// The same answers, however the goroutines run and whatever runs beside them.
func TestP2BatchManyTimes(t *testing.T) {
	defer runtime.GOMAXPROCS(runtime.GOMAXPROCS(0))
	p, frames, draws := turned(t)
	list := slices.Clone(frames)
	list[2], list[5], list[6] = flipped(list[2], 400), list[4], flipped(list[6], 300)
	after := p.Copy()
	want := oneByOne(after, "", list, draws)
	for run := range 120 {
		runtime.GOMAXPROCS(1 + run%8)
		var beside sync.WaitGroup
		for i := range run % 5 {
			other := p.Copy()
			beside.Go(func() { other.Batch("", frames[i:], draws[i:]) })
		}
		q := p.Copy()
		checkBatch(t, q, "", list, draws, want)
		checkState(t, q, state(after))
		beside.Wait()
	}
}

// A goroutine that is at its end may be counted for a moment still.
func TestP1BatchLeavesNothingRunning(t *testing.T) {
	p, frames, draws := turned(t)
	before := runtime.NumGoroutine()
	for i := range frames {
		list := slices.Clone(frames)
		list[i] = flipped(list[i], 400)
		batched(t, p.Copy(), "", list, draws)
	}
	for range 1000 {
		if runtime.NumGoroutine() <= before {
			return
		}
		time.Sleep(time.Millisecond)
	}
	t.Errorf("P1: %d goroutines, where %d were before", runtime.NumGoroutine(), before)
}

func TestP1BatchOfNoParty(t *testing.T) {
	_, frames, draws := turned(t)
	for _, p := range []*Party{nil, {}, new(Party).Copy()} {
		want := []answer{{"", ErrAuth}, {"", ErrForm}, {"", ErrAuth}, {"", ErrKey}}
		checkBatch(t, p, "", []string{frames[0], "", frames[1], frames[2]}, []string{draws[0], draws[1], draws[2], ""}, want)
		if texts, errs := p.Batch("", nil, nil); len(texts) != 0 || len(errs) != 0 {
			t.Errorf("P13: no frames = %q, %v", texts, errs)
		}
		texts, errs := p.Batch("", frames, nil)
		if texts != nil || len(errs) != 1 || whyOf(t, 0, errs[0]) != ErrLong {
			t.Errorf("P13: no draws = %q, %v", texts, errs)
		}
	}
}
