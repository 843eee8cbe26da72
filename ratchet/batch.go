package ratchet

import "sync"

const maxBatch = 8

// attempt is what comes of a frame, if those ahead of it that have a plan are
// opened. It has no plan of its own, if it is refused without being opened.
type attempt struct {
	plan
	text string
	err  error
}

// Batch receives frames as Receive would, one behind the other (P13).
func (p *Party) Batch(ad string, frames []string, draws []string) ([]string, []error) {
	if len(frames) > maxBatch || len(draws) != len(frames) {
		return nil, []error{&Failure{At: 0, Why: ErrLong}}
	}
	var texts []string
	var errs []error
walk:
	for len(texts) < len(frames) {
		for _, a := range p.attempts(ad, frames[len(texts):], draws[len(texts):]) {
			texts = append(texts, a.text)
			errs = append(errs, failed(len(errs), a.err))
			if a.err == nil {
				*p = *a.after
			} else if a.after != nil {
				// The plans behind it go on from a party that never came to be.
				continue walk
			}
		}
	}
	return texts, errs
}

// failed answers an error that is nil where there is nothing to tell, which a
// *Failure that is nil would not be.
func failed(at int, why error) error {
	if why == nil {
		return nil
	}
	return &Failure{At: at, Why: why}
}

// attempts leaves the party as it is: each frame is planned from where the plan
// ahead of it ends.
func (p *Party) attempts(ad string, frames []string, draws []string) []attempt {
	all := make([]attempt, len(frames))
	from := p
	for i, frame := range frames {
		all[i].plan, all[i].err = from.planned(ad, frame, draws[i])
		if all[i].err == nil {
			from = all[i].after
		}
	}
	openAll(all, ad, frames)
	return all
}

// openAll opens the frames that have a plan at the same time: to open one takes
// its own key alone, and each is written to its own place.
func openAll(all []attempt, ad string, frames []string) {
	var open sync.WaitGroup
	for i := range all {
		if all[i].after == nil {
			continue
		}
		open.Add(1)
		go func() {
			defer open.Done()
			all[i].text, all[i].err = all[i].open(ad, frames[i])
		}()
	}
	open.Wait()
}
