package axfr_test

import (
	"math"
	"math/rand"
	"slices"
	"strings"
	"testing"

	"rhizome/api"
	"rhizome/axfr"
	"rhizome/frame"
	"rhizome/rdata"
	"rhizome/wire"
)

const (
	ex   = "\x02ex\x00"
	ns   = "\x02ns\x02ex\x00"
	addr = "\x01\x02\x03\x04"
)

func rr(n string, kind int, data string) api.RR {
	return api.RR{Name: n, Type: kind, Class: api.IN, TTL: 5, Data: data}
}

func soa(serial int) api.RR {
	d, _ := rdata.PutSoa(rdata.Soa{M: ex, R: ex, Serial: serial})
	return rr(ex, api.SOA, d)
}

var a = rr(ns, api.A, addr)

func many(n int) []api.RR {
	var l []api.RR
	for i := range n {
		l = append(l, rr(ns, api.A, string([]byte{0, 0, byte(i >> 8), byte(i)})))
	}
	return l
}

// answer is a message of a stream with the ID 7.
func answer(l ...api.RR) wire.Message {
	return wire.Message{Header: wire.Header{ID: 7, QR: true, AA: true}, An: l}
}

func stream(t *testing.T, l ...wire.Message) []byte {
	var all [][]byte
	for _, m := range l {
		b, e := wire.Encode(m, api.MaxMsg)
		if e != api.OK {
			t.Fatal(e)
		}
		all = append(all, b)
	}
	b, e := frame.Put(all...)
	if e != api.OK {
		t.Fatal(e)
	}
	return b
}

func TestStates(t *testing.T) {
	if got := [...]int{axfr.Going, axfr.Done, axfr.Bad}; got != [...]int{0, 1, 2} {
		t.Errorf("%v", got)
	}
}

func TestTake(t *testing.T) { // P16.1
	with := func(f func(m *wire.Message), l ...api.RR) wire.Message {
		m := answer(l...)
		f(&m)
		return m
	}
	ask := func(q ...api.Question) func(m *wire.Message) { return func(m *wire.Message) { m.Q = q } }
	chaos, other := a, soa(1)
	chaos.Class, other.TTL = 3, 99
	own := api.Question{Name: ex, Type: api.AXFR, Class: 1}
	s, full := soa(1), many(299)
	for i, c := range []struct {
		l    []wire.Message
		want int
		n    int // records of one that is Done
	}{
		{nil, axfr.Going, 0}, {[]wire.Message{answer(s, a, s)}, axfr.Done, 2}, {[]wire.Message{answer(s), answer(a), answer(s)}, axfr.Done, 2}, {[]wire.Message{answer(s, s)}, axfr.Done, 1}, {[]wire.Message{answer(s, a)}, axfr.Going, 0}, {[]wire.Message{answer(s, a, other)}, axfr.Done, 2},
		{[]wire.Message{answer(s), answer(), answer(a, s)}, axfr.Done, 2}, {[]wire.Message{answer()}, axfr.Bad, 0}, {[]wire.Message{answer(), answer(s, s)}, axfr.Bad, 0},
		{[]wire.Message{with(func(m *wire.Message) { m.QR = false }, s, s)}, axfr.Bad, 0}, {[]wire.Message{with(func(m *wire.Message) { m.ID = 8 }, s, s)}, axfr.Bad, 0}, {[]wire.Message{with(func(m *wire.Message) { m.Opcode = 1 }, s, s)}, axfr.Bad, 0},
		{[]wire.Message{with(func(m *wire.Message) { m.Rcode = 5 }, s, s)}, axfr.Bad, 0}, {[]wire.Message{with(func(m *wire.Message) { m.TC = true }, s, s)}, axfr.Bad, 0}, {[]wire.Message{with(func(m *wire.Message) { m.AA = false; m.RA = true; m.RD = true }, s, s)}, axfr.Done, 1},
		{[]wire.Message{with(ask(own), s), with(ask(own), s)}, axfr.Done, 1}, {[]wire.Message{with(ask(own, own), s, s)}, axfr.Bad, 0}, {[]wire.Message{with(ask(api.Question{Name: ns, Type: api.AXFR, Class: 1}), s, s)}, axfr.Bad, 0},
		{[]wire.Message{with(ask(api.Question{Name: ex, Type: api.SOA, Class: 1}), s, s)}, axfr.Bad, 0}, {[]wire.Message{with(ask(api.Question{Name: ex, Type: api.AXFR, Class: 3}), s, s)}, axfr.Bad, 0},
		{[]wire.Message{with(func(m *wire.Message) { m.Ns = []api.RR{a} }, s, s)}, axfr.Bad, 0}, {[]wire.Message{with(func(m *wire.Message) { m.Ar = []api.RR{rr("\x00", api.OPT, "")} }, s, s)}, axfr.Done, 1},
		{[]wire.Message{answer(a, s)}, axfr.Bad, 0}, {[]wire.Message{answer(rr(ex, api.NS, ns))}, axfr.Bad, 0}, {[]wire.Message{answer(rr(ns, api.SOA, s.Data), s)}, axfr.Bad, 0}, {[]wire.Message{answer(s, rr("\x02ey\x00", api.A, addr), s)}, axfr.Bad, 0}, {[]wire.Message{answer(s, rr("\x00", api.A, addr), s)}, axfr.Bad, 0}, {[]wire.Message{answer(s, chaos, s)}, axfr.Bad, 0},
		{[]wire.Message{answer(s, soa(2))}, axfr.Bad, 0}, {[]wire.Message{answer(s, rr(ns, api.SOA, s.Data))}, axfr.Bad, 0}, {[]wire.Message{answer(s, s, a)}, axfr.Bad, 0}, {[]wire.Message{answer(s, s, s)}, axfr.Bad, 0}, {[]wire.Message{answer(s, a), answer(s, a)}, axfr.Bad, 0},
		{[]wire.Message{answer(append([]api.RR{s}, full...)...), answer(s)}, axfr.Done, 300}, {[]wire.Message{answer(append([]api.RR{s}, full...)...), answer(a, s)}, axfr.Bad, 0}, {[]wire.Message{answer(s, a, s), answer(a)}, axfr.Done, 2}, {[]wire.Message{answer(s, a, s), answer()}, axfr.Done, 2},
	} {
		r := axfr.New(7, ex, api.MaxXfer)
		if r.State() != axfr.Going {
			t.Errorf("case %d: not Going", i)
		}
		b := stream(t, c.l...)
		if got := r.Take(b[:len(b)/2], nil, b[len(b)/2:]); got != c.want || r.State() != c.want || len(r.Records()) != c.n {
			t.Errorf("case %d: %d, %d records", i, got, len(r.Records()))
		}
		if r.State() != axfr.Going {
			left := r.Left()
			if r.Take(append(stream(t, answer(s, a, a, a, s)), 0)) != c.want || len(r.Records()) != c.n || r.Left() != left {
				t.Errorf("case %d: it goes on", i)
			}
		}
	}
}

func TestTakeOfOtherBytes(t *testing.T) { // P16.1
	s := soa(1)
	for i, c := range []struct {
		b    string
		want int
	}{{"", axfr.Going}, {"\x00", axfr.Going}, {"\x00\x00", axfr.Bad}, {"\x00\x01", axfr.Going}, {"\x00\x01x", axfr.Bad}, {"\x00\x0c" + strings.Repeat("\x00", 12), axfr.Bad}, {"\xff\xff", axfr.Going}} {
		if got := axfr.New(7, ex, 99).Take([]byte(c.b)); got != c.want {
			t.Errorf("case %d: %d", i, got)
		}
	}
	b := stream(t, answer(s, a), answer(s))
	for most, want := range map[int]int{len(b): axfr.Done, len(b) - 1: axfr.Bad, 0: axfr.Bad, -1: axfr.Bad} {
		r := axfr.New(7, ex, most)
		if got := r.Take(b); got != want || r.Left() != 0 {
			t.Errorf("most %d: %d", most, got)
		}
	}
	if axfr.New(7, ex, -1).Take() != axfr.Bad || axfr.New(7, ex, 0).Take() != axfr.Going {
		t.Error("Take of nothing")
	}
	for _, apex := range []string{"", "ex", "\x02EX\x00"} {
		if r := axfr.New(7, apex, 99); r.State() != axfr.Bad || r.Take(b) != axfr.Bad || r.Left() != 0 || len(r.Records()) != 0 {
			t.Errorf("%q", apex)
		}
	}
	for _, id := range []int{-1, 65536 + 7, math.MaxInt} {
		if axfr.New(id, ex, 999).Take(b) != axfr.Bad {
			t.Errorf("ID %d", id)
		}
	}
	r := axfr.New(7, ex, 999)
	if r.Take(b[:9]) != axfr.Going || r.Left() != 9 {
		t.Errorf("%d", r.Left())
	}
}

func TestMake(t *testing.T) { // P16.2
	s := soa(1)
	b, e := axfr.Make(7, ex, 2, a, rr(ns, api.TXT, "\x00"), s, rr(ex, api.NS, ns))
	first := answer(s, a)
	first.Q = []api.Question{{Name: ex, Type: api.AXFR, Class: 1}}
	if want := stream(t, first, answer(rr(ns, api.TXT, "\x00"), rr(ex, api.NS, ns)), answer(s)); string(b) != string(want) || e != api.OK {
		t.Errorf("%x, %d", b, e)
	}
	for i, c := range []struct {
		id   int
		apex string
		each int
		l    []api.RR
		e    api.Errno
	}{
		{7, ex, 0, nil, api.ErrRange}, {7, ex, 301, nil, api.ErrRange}, {7, ex, -1, []api.RR{s}, api.ErrRange}, {7, ex, math.MinInt, []api.RR{s}, api.ErrRange}, {7, ex, 1, nil, api.ErrZone}, {7, ex, 1, []api.RR{a}, api.ErrZone}, {7, ex, 1, []api.RR{s, s}, api.ErrZone},
		{7, ex, 1, []api.RR{s, rr(ns, api.SOA, s.Data)}, api.ErrZone}, {7, ex, 300, []api.RR{s}, api.OK}, {7, ex, 300, append([]api.RR{s}, many(299)...), api.ErrForm}, {7, ex, 299, append([]api.RR{s}, many(299)...), api.OK},
		{-1, ex, 1, []api.RR{s}, api.ErrForm}, {65536, ex, 1, []api.RR{s}, api.ErrForm}, {65535, ex, 1, []api.RR{s}, api.OK}, {7, "x", 1, []api.RR{s}, api.ErrForm}, {7, ex, 1, []api.RR{s, rr(ns, api.A, "123")}, api.ErrForm}, {7, "\x00", 1, []api.RR{s}, api.OK},
		{7, ex, 20, append([]api.RR{s}, slices.Repeat([]api.RR{rr(ns, 300, strings.Repeat("d", 1000))}, 20)...), api.ErrLong},
	} {
		if b, e := axfr.Make(c.id, c.apex, c.each, c.l...); e != c.e || (len(b) > 0) != (e == api.OK) {
			t.Errorf("case %d: %d bytes, %d", i, len(b), e)
		}
	}
}

func TestWhatIsMadeIsTaken(t *testing.T) { // P16.4
	rnd := rand.New(rand.NewSource(16))
	for range 200 {
		l := append([]api.RR{soa(rnd.Intn(9))}, many(rnd.Intn(40))...)
		b, e := axfr.Make(9, ex, 1+rnd.Intn(50), l...)
		if e != api.OK {
			t.Fatal(e)
		}
		r := axfr.New(9, ex, len(b))
		for rest := b; len(rest) > 0; {
			if r.State() != axfr.Going || len(r.Records()) != 0 {
				t.Fatal("not Going")
			}
			n := 1 + rnd.Intn(len(rest))
			m := rnd.Intn(n + 1)
			r.Take(rest[:m], rest[m:n])
			rest = rest[n:]
		}
		if r.State() != axfr.Done || !slices.Equal(r.Records(), l) || r.Left() != 0 {
			t.Fatalf("%d", r.State())
		}
	}
}

func TestListsAreNew(t *testing.T) { // P16.3
	l := append(make([]api.RR, 0, 9), a, soa(1), a)
	before := slices.Clone(l[:9])
	b, _ := axfr.Make(7, ex, 9, l...)
	if !slices.Equal(l[:9], before) {
		t.Errorf("%v", l[:9])
	}
	r := axfr.New(7, ex, 9999)
	r.Take(b)
	for i := range b {
		b[i] = 0
	}
	g := r.Records()
	g[0].Name = "!"
	_ = append(g, a)
	if h := r.Records(); !slices.Equal(h, []api.RR{soa(1), a, a}) {
		t.Errorf("%v", h)
	}
}
