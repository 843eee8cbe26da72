package ratchet

import "strconv"

// Failure is what went wrong with a frame of a batch.
type Failure struct {
	At  int
	Why error
}

// Error tells it.
func (f *Failure) Error() string {
	if f == nil {
		return "ratchet: no failure"
	}
	return "ratchet: frame " + strconv.Itoa(f.At) + ": " + reason(f.Why)
}

// Unwrap answers why.
func (f *Failure) Unwrap() error {
	if f == nil {
		return nil
	}
	return f.Why
}

// reason asks only the package's own errors for their texts: another one may
// panic, or lead back to the failure that holds it and never end.
func reason(why error) string {
	switch why {
	case nil:
		return "no reason"
	case ErrLong, ErrKey, ErrForm, ErrAuth, ErrSkip, ErrNone, ErrFull:
		return why.Error()
	}
	return "another reason"
}
