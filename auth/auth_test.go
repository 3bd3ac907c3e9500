package auth_test

import (
	"math"
	"slices"
	"testing"

	"rhizome/api"
	"rhizome/auth"
	"rhizome/name"
	"rhizome/rdata"
	"rhizome/sets"
	"rhizome/wire"
	"rhizome/zone"
)

const (
	ex   = "\x02ex\x00"
	addr = "\x01\x02\x03\x04"
	six  = "\x01\x02\x03\x04\x01\x02\x03\x04\x01\x02\x03\x04\x01\x02\x03\x04"
)

func at(labels ...string) string {
	n, _ := name.Join(append(labels, "ex")...)
	return n
}

func rr(n string, kind int, data string) api.RR {
	return api.RR{Name: n, Type: kind, Class: api.IN, TTL: 5, Data: data}
}

func key(n string, kind int) sets.Key {
	return sets.Key{Name: n, Type: kind, Class: api.IN}
}

func made(t *testing.T) *zone.Zone {
	soa, _ := rdata.PutSoa(rdata.Soa{M: ex, R: ex, Serial: 7})
	z, e := zone.New(ex,
		rr(ex, api.SOA, soa), rr(ex, api.NS, at("ns")), rr(ex, api.NS, at("b")), rr(ex, api.NS, "\x01o\x00"), rr(ex, api.MX, "\x00\x01"+at("ns")),
		rr(at("ns"), api.A, addr), rr(at("ns"), api.AAAA, six), rr(at("b"), api.AAAA, six), rr(at("c"), api.CNAME, at("nowhere")), rr(at("deep", "er"), api.TXT, "\x00"),
		rr(at("cut"), api.NS, at("ns", "cut")), rr(at("cut"), api.NS, at("ns")), rr(at("cut"), api.DS, "ds"), rr(at("ns", "cut"), api.A, addr), rr(at("lame"), api.NS, "\x01o\x00"),
		rr(at("al", "cut"), api.CNAME, ex), rr(at("low", "cut"), api.NS, at("b")), rr(at("low", "cut"), api.DS, "ds"),
	)
	if e != api.OK {
		t.Fatal(e)
	}
	return z
}

func same(a, b auth.Reply) bool {
	like := func(l, m []sets.Set) bool { return slices.EqualFunc(l, m, sets.Set.Same) }
	return a.Kind == b.Kind && a.Rcode == b.Rcode && like(a.An, b.An) && like(a.Ns, b.Ns) && like(a.Ar, b.Ar)
}

func TestKinds(t *testing.T) {
	if got := [...]int{auth.Yes, auth.Alias, auth.Refer, auth.NoName, auth.NoData, auth.Outside}; got != [...]int{1, 2, 3, 4, 5, 6} {
		t.Errorf("%v", got)
	}
}

func TestAnswer(t *testing.T) { // P11.1
	z := made(t)
	of := func(keys ...sets.Key) []sets.Set {
		var l []sets.Set
		for _, k := range keys {
			s, ok := z.Get(k)
			if !ok {
				t.Fatalf("%v", k)
			}
			l = append(l, s)
		}
		return l
	}
	soa, cut := of(key(ex, api.SOA)), of(key(at("cut"), api.NS))
	outside := auth.Reply{Kind: auth.Outside, Rcode: api.Refused}
	below := auth.Reply{Kind: auth.Refer, Ns: cut, Ar: of(key(at("ns", "cut"), api.A), key(at("ns"), api.A), key(at("ns"), api.AAAA))}
	noName, noData := auth.Reply{Kind: auth.NoName, Rcode: api.NXDomain, Ns: soa}, auth.Reply{Kind: auth.NoData, Ns: soa}
	for i, c := range []struct {
		n           string
		kind, class int
		want        auth.Reply
	}{
		{ex, api.SOA, 1, auth.Reply{Kind: auth.Yes, An: soa}}, {ex, api.MX, 1, auth.Reply{Kind: auth.Yes, An: of(key(ex, api.MX))}}, {at("ns"), api.A, 1, auth.Reply{Kind: auth.Yes, An: of(key(at("ns"), api.A))}},
		{ex, api.NS, 1, auth.Reply{Kind: auth.Yes, An: of(key(ex, api.NS)), Ar: of(key(at("b"), api.AAAA), key(at("ns"), api.A), key(at("ns"), api.AAAA))}},
		{ex, api.A, 1, noData}, {at("ns"), api.TXT, 1, noData}, {at("er"), api.A, 1, noData}, {at("deep", "er"), api.A, 1, noData}, {at("no"), api.A, 1, noName}, {at("no", "ns"), api.A, 1, noName}, {ex, 0, 1, noData},
		{at("ns"), -1, 1, noData}, {at("no"), math.MaxInt, 1, noName}, {at("c"), api.A, 1, auth.Reply{Kind: auth.Alias, An: of(key(at("c"), api.CNAME))}}, {at("c"), api.CNAME, 1, auth.Reply{Kind: auth.Yes, An: of(key(at("c"), api.CNAME))}},
		{at("c"), api.DS, 1, auth.Reply{Kind: auth.Alias, An: of(key(at("c"), api.CNAME))}}, {at("x", "c"), api.A, 1, noName},
		{at("cut"), api.A, 1, below}, {at("cut"), api.NS, 1, below}, {at("a", "b", "cut"), api.A, 1, below}, {at("ns", "cut"), api.A, 1, below}, {at("al", "cut"), api.A, 1, below}, {at("a", "cut"), api.DS, 1, below},
		{at("low", "cut"), api.DS, 1, below}, {at("low", "cut"), api.NS, 1, below}, {at("cut"), api.DS, 1, auth.Reply{Kind: auth.Yes, An: of(key(at("cut"), api.DS))}}, {at("lame"), api.DS, 1, noData},
		{at("lame"), api.A, 1, auth.Reply{Kind: auth.Refer, Ns: of(key(at("lame"), api.NS))}},
		{ex, api.SOA, 3, outside}, {ex, api.SOA, 0, outside}, {ex, api.AXFR, 1, outside}, {ex, api.ANY, 1, outside}, {ex, api.OPT, 1, outside}, {at("cut"), api.ANY, 1, outside}, {"\x00", api.SOA, 1, outside},
		{"\x02ey\x00", api.SOA, 1, outside}, {"", api.SOA, 1, outside}, {"\x02EX\x00", api.SOA, 1, outside}, {"ex", api.SOA, 1, outside},
	} {
		if r := auth.Answer(z, api.Question{Name: c.n, Type: c.kind, Class: c.class}); !same(r, c.want) {
			t.Errorf("case %d: %v", i, r)
		}
	}
	if r := auth.Answer(nil, api.Question{Name: ex, Type: 1, Class: 1}); !same(r, outside) {
		t.Errorf("%v", r)
	}
}

func TestGlue(t *testing.T) { // P11.2
	z := made(t)
	x := sets.Set{Key: key("\x01q\x00", api.NS), Data: []string{at("ns"), "not a name", at("b"), at("no"), at("ns")}}
	y := sets.Set{Key: sets.Key{Name: "\x01r\x00", Type: api.NS, Class: 9}, Data: []string{at("ns", "cut"), at("b")}}
	mx := sets.Set{Key: key(ex, api.MX), Data: []string{"\x00\x01" + at("ns")}}
	var keys []sets.Key
	for _, s := range auth.Glue(z, mx, y, x) {
		keys = append(keys, s.Key)
	}
	if want := []sets.Key{key(at("b"), api.AAAA), key(at("ns", "cut"), api.A), key(at("ns"), api.A), key(at("ns"), api.AAAA)}; !slices.Equal(keys, want) {
		t.Errorf("%v", keys)
	}
	alias := sets.Set{Key: key(ex, api.CNAME), Data: []string{at("ns")}}
	if len(auth.Glue(z)) != 0 || len(auth.Glue(nil, x)) != 0 || len(auth.Glue(z, mx, alias)) != 0 {
		t.Error("of none")
	}
}

func TestMessage(t *testing.T) { // P11.2
	z := made(t)
	q := api.Question{Name: ex, Type: api.NS, Class: 1}
	r := auth.Answer(z, q)
	r.Ns = auth.Answer(z, api.Question{Name: at("no"), Type: 1, Class: 1}).Ns
	m := auth.Message(77, q, r)
	want := wire.Message{Header: wire.Header{ID: 77, QR: true, AA: true}, Q: []api.Question{q}, An: sets.Flat(r.An...), Ns: sets.Flat(r.Ns...), Ar: sets.Flat(r.Ar...)}
	if !wire.Same(m, want) || len(m.An) != 3 || len(m.Ns) != 1 || len(m.Ar) != 3 {
		t.Errorf("%v", m)
	}
	for kind, aa := range map[int]bool{auth.Yes: true, auth.Alias: true, auth.Refer: false, auth.NoName: true, auth.NoData: true, auth.Outside: false} {
		if m := auth.Message(1, q, auth.Reply{Kind: kind, Rcode: 9}); m.AA != aa || m.Rcode != 9 || !m.QR || m.Opcode != 0 || m.RD || m.RA || m.TC {
			t.Errorf("kind %d: %v", kind, m)
		}
	}
}

func TestNothingIsMadeUp(t *testing.T) { // P11.4
	z := made(t)
	all := z.Records()
	for _, labels := range [][]string{nil, {"ns"}, {"b"}, {"c"}, {"er"}, {"cut"}, {"x", "cut"}, {"low", "cut"}, {"lame"}, {"no"}} {
		for kind := range 260 {
			q := api.Question{Name: at(labels...), Type: kind, Class: 1}
			r := auth.Answer(z, q)
			if r.Kind < auth.Yes || r.Kind > auth.Outside {
				t.Fatalf("%v: %v", q, r)
			}
			for _, x := range auth.Message(1, q, r).All() {
				if !slices.Contains(all, x) {
					t.Fatalf("%v: %v", q, x)
				}
			}
		}
	}
}

func TestListsAreNew(t *testing.T) { // P11.3
	z := made(t)
	q := api.Question{Name: ex, Type: api.NS, Class: 1}
	want := auth.Message(1, q, auth.Answer(z, q))
	r := auth.Answer(z, q)
	m := auth.Message(1, q, r)
	m.An[0].Data = "!"
	_ = append(m.An, m.An...)
	r.An[0].Data[0], r.Ar[0].Data[0] = "!", "!"
	if !wire.Same(auth.Message(1, q, auth.Answer(z, q)), want) {
		t.Error("the zone is changed")
	}
	s := sets.Set{Key: key(ex, api.NS), Data: []string{at("ns"), at("b")}}
	auth.Glue(z, s)
	if s.Data[0] != at("ns") {
		t.Errorf("%v", s)
	}
}
