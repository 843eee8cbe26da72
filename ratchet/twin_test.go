package ratchet

import (
	"crypto/hkdf"
	"crypto/sha256"
	"encoding/binary"
	"slices"
	"testing"
)

// The document's numbers, written again: a wrong one in the program must show.
const (
	adBound    = 32
	skipBound  = 10
	keptBound  = 16
	sendBound  = 30
	batchBound = 8
	frameLeast = 36 + 16
	frameBound = 36 + 64 + 16
)

// twin does what the document asks of a party by the Go library alone, and in
// another way: it goes back to a chain's first key for the key of a message.
type twin struct {
	t                    *testing.T
	root, secret, theirs string
	out, in              string // The first keys of the two chains.
	sent, before, got    int
	spare                []spareKey
}

type spareKey struct {
	theirs string
	number int
	key    string
}

func firstTwin(t *testing.T, root string, theirs string, draw string) *twin {
	w := &twin{t: t, root: root, theirs: theirs, secret: draw}
	w.root, w.out = w.turn(root, draw, theirs)
	return w
}

func secondTwin(t *testing.T, root string, own string) *twin {
	return &twin{t: t, root: root, secret: own}
}

func (w *twin) turn(root string, secret string, theirs string) (string, string) {
	w.t.Helper()
	both := wantShared(w.t, secret, theirs)
	d, err := hkdf.Key(sha256.New, []byte(both), []byte(root), "ratchet", 64)
	if err != nil {
		w.t.Fatal(err)
	}
	return string(d[:32]), string(d[32:])
}

// messageKey makes all the steps from a chain's first key on.
func messageKey(first string, number int) string {
	key := []byte(first)
	for range number {
		key = wantMac(key, []byte{2})
	}
	return string(wantMac(key, []byte{1}))
}

func (w *twin) public() string { return wantShared(w.t, w.secret, nine()) }

func (w *twin) send(ad string, text string) (string, error) {
	switch {
	case len(ad) > adBound || len(text) > textBound:
		return "", ErrLong
	case w.out == "":
		return "", ErrNone
	case w.sent == sendBound:
		return "", ErrFull
	}
	w.sent++
	return w.told(ad, text, w.before, w.sent-1), nil
}

// told is a frame with numbers of the test's choice, sealed as it must be.
func (w *twin) told(ad string, text string, before int, number int) string {
	return wantFrame(w.t, messageKey(w.out, number), w.public(), before, number, ad, text)
}

func wantFrame(t *testing.T, key string, public string, before int, number int, ad string, text string) string {
	t.Helper()
	ahead := []byte(public)
	ahead = binary.BigEndian.AppendUint16(ahead, uint16(before))
	ahead = binary.BigEndian.AppendUint16(ahead, uint16(number))
	return string(ahead) + wantSealed(t, key, ad+string(ahead), text)
}

// opens seals the box once more, which shows the text, and then the text.
func (w *twin) opens(key string, ad string, frame string) (string, error) {
	w.t.Helper()
	ad, sealed := ad+frame[:36], frame[36:]
	n := len(sealed) - 16
	text := wantSealed(w.t, key, ad, sealed[:n])[:n]
	if wantSealed(w.t, key, ad, text) != sealed {
		return "", ErrAuth
	}
	return text, nil
}

func (w *twin) receive(ad string, frame string, draw string) (string, error) {
	switch {
	case len(ad) > adBound || len(frame) > frameBound:
		return "", ErrLong
	case len(draw) != 32:
		return "", ErrKey
	case len(frame) < frameLeast:
		return "", ErrForm
	}
	theirs, number := frame[:32], int(binary.BigEndian.Uint16([]byte(frame[34:])))
	for i, s := range w.spare {
		if s.theirs == theirs && s.number == number {
			text, err := w.opens(s.key, ad, frame)
			if err == nil {
				w.spare = slices.Concat(w.spare[:i], w.spare[i+1:])
			}
			return text, err
		}
	}
	if theirs == w.theirs {
		return w.receiveNext(ad, frame, number)
	}
	return w.receiveTurn(ad, frame, draw, number)
}

func (w *twin) receiveNext(ad string, frame string, number int) (string, error) {
	switch {
	case w.in == "" || number < w.got:
		return "", ErrAuth
	case number-w.got > skipBound:
		return "", ErrSkip
	}
	text, err := w.opens(messageKey(w.in, number), ad, frame)
	if err == nil {
		w.put(w.theirs, w.in, w.got, number)
		w.got = number + 1
	}
	return text, err
}

func (w *twin) receiveTurn(ad string, frame string, draw string, number int) (string, error) {
	theirs, before := frame[:32], int(binary.BigEndian.Uint16([]byte(frame[32:])))
	if w.in != "" && before-w.got > skipBound || number > skipBound {
		return "", ErrSkip
	}
	root, in := w.turn(w.root, w.secret, theirs)
	text, err := w.opens(messageKey(in, number), ad, frame)
	if err != nil {
		return "", err
	}
	if w.in != "" {
		w.put(w.theirs, w.in, w.got, before)
	}
	w.put(theirs, in, 0, number)
	w.theirs, w.in, w.got, w.secret = theirs, in, number+1, draw
	w.root, w.out = w.turn(root, draw, theirs)
	w.before, w.sent = w.sent, 0
	return text, nil
}

// put keeps the keys of the messages from one number to another, left out.
func (w *twin) put(theirs string, first string, from int, to int) {
	for n := from; n < to; n++ {
		w.spare = append(w.spare, spareKey{theirs, n, messageKey(first, n)})
	}
	for len(w.spare) > keptBound {
		w.spare = w.spare[1:]
	}
}

func (w *twin) copied() *twin {
	other := *w
	other.spare = slices.Clone(w.spare)
	return &other
}
