package ratchet

import "slices"

const maxSkip = 10

// plan is made of a party and a frame's head alone, ahead of opening the frame.
type plan struct {
	key   string // This one must open the frame.
	after *Party // So the party goes on, if it does.
}

// Receive answers the text of a frame (P9 to P12).
func (p *Party) Receive(ad string, frame string, draw string) (string, error) {
	next, err := p.planned(ad, frame, draw)
	if err != nil {
		return "", err
	}
	text, err := next.open(ad, frame)
	if err != nil {
		return "", err
	}
	*p = *next.after
	return text, nil
}

// open answers the text of the frame that the plan was made for.
func (n plan) open(ad string, frame string) (string, error) {
	return Open(n.key, ad+frame[:headSize], frame[headSize:])
}

// misfit tells what can be seen to be wrong without a party (P9).
func misfit(ad string, frame string, draw string) error {
	if len(ad) > maxAd || len(frame) > headSize+maxText+tagSize {
		return ErrLong
	}
	if !areKeys(draw) {
		return ErrKey
	}
	if len(frame) < headSize+tagSize {
		return ErrForm
	}
	return nil
}

// planned changes nothing: the party goes on only when the frame is opened. A
// party that nobody made has nothing to open a frame with.
func (p *Party) planned(ad string, frame string, draw string) (plan, error) {
	if err := misfit(ad, frame, draw); err != nil {
		return plan{}, err
	}
	if p == nil || p.secret == "" {
		return plan{}, ErrAuth
	}
	h := readHead(frame)
	if at := p.keptAt(h); at >= 0 {
		return p.planKept(at), nil
	}
	if h.theirs == p.theirs {
		return p.planNext(h)
	}
	return p.planTurn(h, draw)
}

// keptAt answers -1, if no key is kept for the message.
func (p *Party) keptAt(h head) int {
	return slices.IndexFunc(p.kept, func(k keptKey) bool {
		return k.theirs == h.theirs && k.number == h.number
	})
}

// planKept is for a message that was skipped (P9).
func (p *Party) planKept(at int) plan {
	after := p.Copy()
	after.kept = slices.Delete(after.kept, at, at+1)
	return plan{p.kept[at].key, after}
}

// planNext is for a message of the chain that is received (P10).
func (p *Party) planNext(h head) (plan, error) {
	if !p.receiving.begun() || h.number < p.receiving.next {
		return plan{}, ErrAuth
	}
	if h.number > p.receiving.next+maxSkip {
		return plan{}, ErrSkip
	}
	after := p.Copy()
	return plan{after.reach(h.number), after}, nil
}

// planTurn is for a message of a chain that begins with it (P11).
func (p *Party) planTurn(h head, draw string) (plan, error) {
	if p.receiving.begun() && h.before > p.receiving.next+maxSkip || h.number > maxSkip {
		return plan{}, ErrSkip
	}
	after := p.Copy()
	if p.receiving.begun() {
		after.keep(after.receiving.skip(p.theirs, h.before))
	}
	after.theirs = h.theirs
	after.receiving = after.turn()
	key := after.reach(h.number)
	after.secret = draw
	after.before = after.sending.next
	after.sending = after.turn()
	return plan{key, after}, nil
}

// reach answers the key of the message number n of the chain that is received,
// and keeps those of the messages ahead of it.
func (p *Party) reach(n int) string {
	p.keep(p.receiving.skip(p.theirs, n))
	return p.receiving.step()
}
