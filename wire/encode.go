package wire

import (
	"rhizome/api"
	"rhizome/name"
	"rhizome/num"
	"rhizome/rdata"
)

const (
	mostPlace = 1 << 14 // a name that begins from there on can't be told by its place
	isPlace   = 3 << 14
)

// writer lays a message down and keeps where each name was first written.
type writer struct {
	b      []byte
	places map[string]int
}

// Encode tells the bytes of a message.
func Encode(m Message, most int) ([]byte, api.Errno) {
	if !May(m) {
		return nil, api.ErrForm
	}
	w := writer{places: map[string]int{}}
	flags, _ := m.Flags()
	w.numbers(2, m.ID, flags, len(m.Q), len(m.An), len(m.Ns), len(m.Ar))
	for _, q := range m.Q {
		w.name(q.Name)
		w.numbers(2, q.Type, q.Class)
	}
	for _, r := range m.All() {
		w.record(r)
	}
	if len(w.b) > most || len(w.b) > api.MaxMsg {
		return nil, api.ErrLong
	}
	return w.b, api.OK
}

// numbers writes numbers that are known to fit.
func (w *writer) numbers(width int, l ...int) {
	s, _ := num.Join(width, l...)
	w.b = append(w.b, s...)
}

// name writes the labels of n up to what was written ahead, and the place of that.
func (w *writer) name(n string) {
	for n != root {
		if at, ok := w.places[n]; ok {
			w.numbers(2, isPlace|at)
			return
		}
		if len(w.b) < mostPlace {
			w.places[n] = len(w.b)
		}
		rest, _ := name.Parent(n)
		w.b = append(w.b, n[:len(n)-len(rest)]...)
		n = rest
	}
	w.b = append(w.b, root...)
}

func (w *writer) record(r api.RR) {
	w.name(r.Name)
	w.numbers(2, r.Type, r.Class)
	w.numbers(4, r.TTL)
	from := len(w.b)
	w.numbers(2, 0)
	w.data(r.Type, r.Data)
	// How long the data are is known only when their names are written.
	size := len(w.b) - from - 2
	w.b[from], w.b[from+1] = byte(size>>8), byte(size)
}

func (w *writer) data(kind int, data string) {
	names := rdata.Names(kind, data)
	if kind == api.MX {
		w.b, data = append(w.b, data[:2]...), data[2:]
	}
	for _, n := range names {
		w.name(n)
		data = data[len(n):]
	}
	w.b = append(w.b, data...)
}
