package ratchet

import (
	"slices"

	"ratchet/sums"
)

const (
	maxSend = 30
	maxKept = 16
)

// Party is one of the two. Make it by First, Second or Copy.
type Party struct {
	root      string
	secret    string
	theirs    string // The other one's public key; empty, if there is none yet.
	sending   chain
	before    int // How many messages the chain had that was sent ahead of sending.
	receiving chain
	kept      []keptKey
}

// keptKey is the key of a skipped message, which may still come.
type keptKey struct {
	theirs string
	number int
	key    string
}

// First makes the party that begins (P7).
func First(root string, theirs string, draw string) (*Party, error) {
	if !areKeys(root, theirs, draw) {
		return nil, ErrKey
	}
	p := &Party{root: root, secret: draw, theirs: theirs}
	p.sending = p.turn()
	return p, nil
}

// Second makes the other one (P7).
func Second(root string, own string) (*Party, error) {
	if !areKeys(root, own) {
		return nil, ErrKey
	}
	return &Party{root: root, secret: own}, nil
}

// Copy makes a party that goes on alike (P14).
func (p *Party) Copy() *Party {
	if p == nil {
		return nil
	}
	other := *p
	other.kept = slices.Clone(p.kept)
	return &other
}

// Send answers a frame (P8).
func (p *Party) Send(ad string, text string) (string, error) {
	if len(ad) > maxAd || len(text) > maxText {
		return "", ErrLong
	}
	if p == nil || !p.sending.begun() {
		return "", ErrNone
	}
	if p.sending.next >= maxSend {
		return "", ErrFull
	}
	ahead := head{sums.Shared(p.secret, basePoint), p.before, p.sending.next}.bytes()
	return ahead + sealText(p.sending.step(), ad+ahead, text), nil
}

// turn moves the root and answers the chain that is made with it (P7).
func (p *Party) turn() chain {
	var begun chain
	p.root, begun.key = halves(sums.Derive(p.root, sums.Shared(p.secret, p.theirs), "ratchet", 2*keySize))
	return begun
}

// keep puts keys behind those that are kept; of too many the first ones go
// (P12).
func (p *Party) keep(skipped []keptKey) {
	p.kept = append(p.kept, skipped...)
	if above := len(p.kept) - maxKept; above > 0 {
		p.kept = slices.Delete(p.kept, 0, above)
	}
}
