package length

import (
	"ogham/api"
	"ogham/whole"
)

// taker reads determinants, and counts the items that follow them.
type taker struct {
	r      *whole.Reader
	most   int
	n      int // items up to now
	before int // how many items the fragment before has, or 0
}

// next reads a determinant and returns how many items follow it, and whether the reader has no fault.
func (t *taker) next() (int, bool) {
	if t.r == nil || t.r.Err() != api.OK {
		return 0, false
	}
	start := *t.r
	k, e := t.determinant()
	if e != api.OK {
		*t.r = start
		t.r.Fail(e)
		return 0, false
	}
	if k > max(t.most, 0)-t.n {
		t.r.Fail(api.ErrLimit)
		return 0, false
	}
	t.n += k
	t.before = k
	return k, true
}

// determinant reads a determinant; beside an error the reader stands anywhere.
func (t *taker) determinant() (int, api.Errno) {
	first := int(t.r.Bits(8))
	if first < 0x80 || t.r.Err() != api.OK {
		return first, t.r.Err()
	}
	if first < 0xc0 {
		k := (first&0x3f)<<8 | int(t.r.Bits(8))
		if t.r.Err() == api.OK && k < shortEnd {
			return 0, api.ErrForm
		}
		return k, t.r.Err()
	}
	m := first & 0x3f
	if m < 1 || m > greatest || t.before > 0 && t.before < greatest*unit {
		return 0, api.ErrForm
	}
	return m * unit, api.OK
}

// Take returns the octets that Put has appended, at most so many.
func Take(r *whole.Reader, most int) []byte {
	t := taker{r: r, most: most}
	var out []byte
	for {
		k, ok := t.next()
		if !ok {
			return nil
		}
		out = append(out, r.Octets(k)...)
		if r.Err() != api.OK {
			return nil
		}
		if k < unit {
			return out
		}
	}
}

// TakeMany reads the items that PutMany has appended, each by a call of one, and returns how many. It ends if one returns false or panics.
func TakeMany(r *whole.Reader, most int, one func(r *whole.Reader, i int) bool) (n int) {
	if one == nil {
		return 0
	}
	defer func() {
		if recover() != nil {
			n = 0
		}
	}()
	t := taker{r: r, most: most}
	i := 0
	for {
		k, ok := t.next()
		if !ok {
			return 0
		}
		for range k {
			if !one(r, i) || r.Err() != api.OK {
				return 0
			}
			i++
		}
		if k < unit {
			return i
		}
	}
}
