package image

import (
	"strings"

	"rhizome/api"
	"rhizome/num"
	"rhizome/sets"
	"rhizome/zone"
)

// reader goes through bytes; where they lack, or say too much, it is bad and tells nothing.
type reader struct {
	s   string
	at  int
	bad bool
}

func (r *reader) number(width int) int {
	n, e := num.Get(r.s, r.at, width)
	if e != api.OK {
		r.bad = true
		return 0
	}
	r.at += width
	return n
}

func (r *reader) take(size int) string {
	if len(r.s)-r.at < size {
		r.bad = true
		return ""
	}
	r.at += size
	return r.s[r.at-size : r.at]
}

// name takes labels up to the root; whether they may be is the zone's to say.
func (r *reader) name() string {
	from, size := r.at, -1
	for size != 0 && !r.bad {
		size = r.number(1)
		r.take(size)
	}
	return r.s[from:r.at]
}

func (r *reader) key() sets.Key {
	n := r.name()
	kind := r.number(2)
	return sets.Key{Name: n, Type: kind, Class: r.number(2)}
}

func (r *reader) set() sets.Set {
	s := sets.Set{Key: r.key()}
	s.TTL = r.number(4)
	for range r.number(2) {
		d := r.take(r.number(2))
		if r.bad {
			return sets.Set{}
		}
		s.Data = append(s.Data, d)
	}
	return s
}

// read makes the zone of bytes, as far as they tell one.
func read(s string) (*zone.Zone, bool) {
	rest, ok := strings.CutPrefix(s, magic)
	if !ok {
		return nil, false
	}
	r := reader{s: rest}
	apex := r.name()
	count := r.number(cntWidth)
	r.take(placeSize * count)
	var l []api.RR
	for range count {
		set := r.set()
		if r.bad || len(l)+len(set.Data) > api.MaxRRs {
			return nil, false
		}
		l = append(l, set.Records()...)
	}
	z, e := zone.New(apex, l...)
	return z, e == api.OK
}
