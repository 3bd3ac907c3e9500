package auth

import (
	"math"
	"slices"
	"testing"

	"rhizome/api"
	"rhizome/name"
	"rhizome/rdata"
	"rhizome/sets"
	"rhizome/wire"
	"rhizome/zone"
)

const (
	ex   = "\x02ex\x00"
	addr = "\x01\x02\x03\x04"
	six  = "\x01\x02\x03\x04\x01\x02\x03\x04\x01\x02\x03\x04\x01\x02\x03\x04"
)

func at(labels ...string) string {
	n, _ := name.Join(append(labels, "ex")...)
	return n
}

func rr(n string, kind int, data string) api.RR {
	return api.RR{Name: n, Type: kind, Class: api.IN, TTL: 5, Data: data}
}

func made(t *testing.T) *zone.Zone {
	soa, _ := rdata.PutSoa(rdata.Soa{M: ex, R: ex, Serial: 7})
	z, e := zone.New(ex,
		rr(ex, api.SOA, soa), rr(ex, api.NS, at("ns")), rr(ex, api.NS, at("b")), rr(ex, api.NS, "\x01o\x00"), rr(ex, api.MX, "\x00\x01"+at("ns")),
		rr(at("ns"), api.A, addr), rr(at("ns"), api.AAAA, six), rr(at("b"), api.AAAA, six), rr(at("c"), api.CNAME, at("nowhere")), rr(at("deep", "er"), api.TXT, "\x00"),
		rr(at("cut"), api.NS, at("ns", "cut")), rr(at("cut"), api.NS, at("ns")), rr(at("cut"), api.DS, "ds"), rr(at("ns", "cut"), api.A, addr), rr(at("lame"), api.NS, "\x01o\x00"),
		rr(at("al", "cut"), api.CNAME, ex), rr(at("low", "cut"), api.NS, at("b")), rr(at("low", "cut"), api.DS, "ds"),
	)
	if e != api.OK {
		t.Fatal(e)
	}
	return z
}

func same(a, b Reply) bool {
	like := func(l, m []sets.Set) bool { return slices.EqualFunc(l, m, sets.Set.Same) }
	return a.Kind == b.Kind && a.Rcode == b.Rcode && like(a.An, b.An) && like(a.Ns, b.Ns) && like(a.Ar, b.Ar)
}

func TestAnswer(t *testing.T) { // P11.1
	z := made(t)
	of := func(keys ...sets.Key) []sets.Set {
		var l []sets.Set
		for _, k := range keys {
			s, ok := z.Get(k)
			if !ok {
				t.Fatalf("%v", k)
			}
			l = append(l, s)
		}
		return l
	}
	soa, cut := of(key(ex, api.SOA)), of(key(at("cut"), api.NS))
	outside := Reply{Kind: Outside, Rcode: api.Refused}
	below := Reply{Kind: Refer, Ns: cut, Ar: of(key(at("ns", "cut"), api.A), key(at("ns"), api.A), key(at("ns"), api.AAAA))}
	noName, noData := Reply{Kind: NoName, Rcode: api.NXDomain, Ns: soa}, Reply{Kind: NoData, Ns: soa}
	for i, c := range []struct {
		n           string
		kind, class int
		want        Reply
	}{
		{ex, api.SOA, 1, Reply{Kind: Yes, An: soa}}, {ex, api.MX, 1, Reply{Kind: Yes, An: of(key(ex, api.MX))}}, {at("ns"), api.A, 1, Reply{Kind: Yes, An: of(key(at("ns"), api.A))}},
		{ex, api.NS, 1, Reply{Kind: Yes, An: of(key(ex, api.NS)), Ar: of(key(at("b"), api.AAAA), key(at("ns"), api.A), key(at("ns"), api.AAAA))}},
		{ex, api.A, 1, noData}, {at("ns"), api.TXT, 1, noData}, {at("er"), api.A, 1, noData}, {at("deep", "er"), api.A, 1, noData}, {at("no"), api.A, 1, noName}, {at("no", "ns"), api.A, 1, noName}, {ex, 0, 1, noData},
		{at("ns"), -1, 1, noData}, {at("no"), math.MaxInt, 1, noName}, {at("c"), api.A, 1, Reply{Kind: Alias, An: of(key(at("c"), api.CNAME))}}, {at("c"), api.CNAME, 1, Reply{Kind: Yes, An: of(key(at("c"), api.CNAME))}},
		{at("c"), api.DS, 1, Reply{Kind: Alias, An: of(key(at("c"), api.CNAME))}}, {at("x", "c"), api.A, 1, noName},
		{at("cut"), api.A, 1, below}, {at("cut"), api.NS, 1, below}, {at("a", "b", "cut"), api.A, 1, below}, {at("ns", "cut"), api.A, 1, below}, {at("al", "cut"), api.A, 1, below}, {at("a", "cut"), api.DS, 1, below},
		{at("low", "cut"), api.DS, 1, below}, {at("low", "cut"), api.NS, 1, below}, {at("cut"), api.DS, 1, Reply{Kind: Yes, An: of(key(at("cut"), api.DS))}}, {at("lame"), api.DS, 1, noData},
		{at("lame"), api.A, 1, Reply{Kind: Refer, Ns: of(key(at("lame"), api.NS))}},
		{ex, api.SOA, 3, outside}, {ex, api.SOA, 0, outside}, {ex, api.AXFR, 1, outside}, {ex, api.ANY, 1, outside}, {ex, api.OPT, 1, outside}, {at("cut"), api.ANY, 1, outside}, {"\x00", api.SOA, 1, outside},
		{"\x02ey\x00", api.SOA, 1, outside}, {"", api.SOA, 1, outside}, {"\x02EX\x00", api.SOA, 1, outside}, {"ex", api.SOA, 1, outside},
	} {
		if r := Answer(z, api.Question{Name: c.n, Type: c.kind, Class: c.class}); !same(r, c.want) {
			t.Errorf("case %d: %v", i, r)
		}
	}
	if r := Answer(nil, api.Question{Name: ex, Type: 1, Class: 1}); !same(r, outside) {
		t.Errorf("%v", r)
	}
}

func TestGlue(t *testing.T) { // P11.2
	z := made(t)
	x := sets.Set{Key: key("\x01q\x00", api.NS), Data: []string{at("ns"), "not a name", at("b"), at("no"), at("ns")}}
	y := sets.Set{Key: sets.Key{Name: "\x01r\x00", Type: api.NS, Class: 9}, Data: []string{at("ns", "cut"), at("b")}}
	mx := sets.Set{Key: key(ex, api.MX), Data: []string{"\x00\x01" + at("ns")}}
	var keys []sets.Key
	for _, s := range Glue(z, mx, y, x) {
		keys = append(keys, s.Key)
	}
	if want := []sets.Key{key(at("b"), api.AAAA), key(at("ns", "cut"), api.A), key(at("ns"), api.A), key(at("ns"), api.AAAA)}; !slices.Equal(keys, want) {
		t.Errorf("%v", keys)
	}
	if len(Glue(z)) != 0 || len(Glue(z, mx)) != 0 {
		t.Error("of none")
	}
}

func TestMessage(t *testing.T) { // P11.2
	z := made(t)
	q := api.Question{Name: ex, Type: api.NS, Class: 1}
	r := Answer(z, q)
	r.Ns = Answer(z, api.Question{Name: at("no"), Type: 1, Class: 1}).Ns
	m := Message(77, q, r)
	want := wire.Message{Header: wire.Header{ID: 77, QR: true, AA: true}, Q: []api.Question{q}, An: sets.Flat(r.An...), Ns: sets.Flat(r.Ns...), Ar: sets.Flat(r.Ar...)}
	if !wire.Same(m, want) || len(m.An) != 3 || len(m.Ns) != 1 || len(m.Ar) != 3 {
		t.Errorf("%v", m)
	}
	for kind, aa := range map[int]bool{Yes: true, Alias: true, Refer: false, NoName: true, NoData: true, Outside: false} {
		if m := Message(1, q, Reply{Kind: kind, Rcode: 9}); m.AA != aa || m.Rcode != 9 || !m.QR || m.Opcode != 0 || m.RD || m.RA || m.TC {
			t.Errorf("kind %d: %v", kind, m)
		}
	}
}

func TestNothingIsMadeUp(t *testing.T) { // P11.4
	z := made(t)
	all := z.Records()
	for _, labels := range [][]string{nil, {"ns"}, {"b"}, {"c"}, {"er"}, {"cut"}, {"x", "cut"}, {"low", "cut"}, {"lame"}, {"no"}} {
		for kind := range 260 {
			q := api.Question{Name: at(labels...), Type: kind, Class: 1}
			r := Answer(z, q)
			if r.Kind < Yes || r.Kind > Outside {
				t.Fatalf("%v: %v", q, r)
			}
			for _, x := range Message(1, q, r).All() {
				if !slices.Contains(all, x) {
					t.Fatalf("%v: %v", q, x)
				}
			}
		}
	}
}

func TestListsAreNew(t *testing.T) { // P11.3
	z := made(t)
	q := api.Question{Name: ex, Type: api.NS, Class: 1}
	want := Message(1, q, Answer(z, q))
	r := Answer(z, q)
	m := Message(1, q, r)
	m.An[0].Data = "!"
	_ = append(m.An, m.An...)
	r.An[0].Data[0], r.Ar[0].Data[0] = "!", "!"
	if !wire.Same(Message(1, q, Answer(z, q)), want) {
		t.Error("the zone is changed")
	}
	s := sets.Set{Key: key(ex, api.NS), Data: []string{at("ns"), at("b")}}
	Glue(z, s)
	if s.Data[0] != at("ns") {
		t.Errorf("%v", s)
	}
}
