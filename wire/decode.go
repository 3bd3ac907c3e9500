package wire

import (
	"rhizome/api"
	"rhizome/name"
	"rhizome/num"
	"rhizome/rdata"
)

const soaTail = 20 // bytes of an SOA behind its names

// reader goes through the bytes of a message up to its first error.
type reader struct {
	s  string
	at int
	e  api.Errno
}

// Decode reads the bytes of a message.
func Decode(b []byte) (Message, api.Errno) {
	if len(b) > api.MaxMsg {
		return Message{}, api.ErrLong
	}
	r := &reader{s: string(b)}
	m := r.message()
	if r.e == api.OK && r.at < len(r.s) {
		r.e = api.ErrLong
	}
	if r.e != api.OK {
		return Message{}, r.e
	}
	return m, api.OK
}

func (r *reader) message() Message {
	id, flags := r.number(2), r.number(2)
	count := [4]int{r.number(2), r.number(2), r.number(2), r.number(2)}
	if count[0]+count[1]+count[2]+count[3] > api.MaxRRs {
		r.fail(api.ErrLimit)
	}
	if r.e != api.OK {
		return Message{}
	}
	m := Message{}
	m.Header, _ = Unflag(id, flags)
	m.Q = r.questions(count[0])
	m.An = r.records(count[1], false)
	m.Ns = r.records(count[2], false)
	m.Ar = r.records(count[3], true)
	return m
}

// fail keeps the first error.
func (r *reader) fail(e api.Errno) {
	if r.e == api.OK {
		r.e = e
	}
}

func (r *reader) number(width int) int {
	n, e := num.Get(r.s, r.at, width)
	if e != api.OK {
		r.fail(e)
		return 0
	}
	r.at += width
	return n
}

// take is the next bytes, so many.
func (r *reader) take(size int) string {
	if len(r.s)-r.at < size {
		r.fail(api.ErrShort)
		return ""
	}
	r.at += size
	return r.s[r.at-size : r.at]
}

func (r *reader) questions(count int) []api.Question {
	var l []api.Question
	for range count {
		q := api.Question{Name: r.name(), Type: r.number(2), Class: r.number(2)}
		if r.e != api.OK {
			return nil
		}
		l = append(l, q)
	}
	return l
}

func (r *reader) records(count int, last bool) []api.RR {
	var l []api.RR
	for range count {
		x := r.record()
		if !rdata.MayRR(x) && !(last && mayOpt(x)) {
			r.fail(api.ErrForm)
		}
		if r.e != api.OK {
			return nil
		}
		l = append(l, x)
	}
	return l
}

func (r *reader) record() api.RR {
	x := api.RR{Name: r.name(), Type: r.number(2), Class: r.number(2), TTL: r.number(4)}
	size := r.number(2)
	if len(r.s)-r.at < size {
		r.fail(api.ErrShort)
	}
	if r.e != api.OK {
		return api.RR{}
	}
	x.Data = r.data(x.Type, r.at+size)
	return x
}

// data reads a record's data up to its end, which lies within the message: what lacks there is a fault of form.
func (r *reader) data(kind, end int) string {
	s := ""
	switch kind {
	case api.NS, api.CNAME:
		s = r.name()
	case api.MX:
		s = r.take(2) + r.name()
	case api.SOA:
		s = r.name() + r.name()
		s += r.take(soaTail)
	default:
		s = r.take(end - r.at)
	}
	if r.e == api.ErrShort || r.at != end {
		r.e = api.ErrForm
	}
	return s
}

// name reads a name and goes to what stands behind it.
func (r *reader) name() string {
	if r.e != api.OK {
		return ""
	}
	n, next, e := nameAt(r.s, r.at)
	if e != api.OK {
		r.fail(e)
		return ""
	}
	r.at = next
	return n
}

// nameAt reads the name that begins at a place of s; it tells the place behind it, too.
func nameAt(s string, at int) (string, int, api.Errno) {
	var b []byte
	next, ahead := 0, at
	for at < len(s) && s[at] != 0 {
		place := int(s[at])
		if place <= api.MaxLabel {
			end := at + 1 + place
			if end > len(s) || len(b) > api.MaxName {
				break
			}
			b = append(b, s[at:end]...)
			at = end
			continue
		}
		place, e := num.Get(s, at, 2)
		if e != api.OK {
			return "", 0, e
		}
		place -= isPlace
		// Each place lies ahead of the last one: so the way ends.
		if place < 0 || place >= ahead {
			return "", 0, api.ErrForm
		}
		if next == 0 {
			next = at + 2
		}
		at, ahead = place, place
	}
	if len(b) >= api.MaxName {
		return "", 0, api.ErrForm
	}
	if at >= len(s) || s[at] != 0 {
		return "", 0, api.ErrShort
	}
	if next == 0 {
		next = at + 1
	}
	return name.Lower(string(append(b, 0))), next, api.OK
}
