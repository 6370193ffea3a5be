package print

import (
	"ogham/api"
)

// most is how long a text may become.
const most = 4 * api.MaxText

// writer is a text, up to the part with which it would become too long.
type writer struct {
	text []byte
	full bool
}

// put appends all parts.
func (w *writer) put(parts ...string) {
	for _, s := range parts {
		if w.full || len(s) > most-len(w.text) {
			w.full = true
			return
		}
		w.text = append(w.text, s...)
	}
}
