package zone_test

import (
	"math/rand"
	"slices"
	"strings"
	"testing"

	"rhizome/api"
	"rhizome/name"
	"rhizome/rdata"
	"rhizome/sets"
	"rhizome/zone"
)

const (
	ex   = "\x02ex\x00"
	addr = "\x01\x02\x03\x04"
)

// at is a name under the apex of the tests.
func at(labels ...string) string {
	n, e := name.Join(append(labels, "ex")...)
	if e != api.OK {
		panic(labels)
	}
	return n
}

func rr(n string, kind, ttl int, data string) api.RR {
	return api.RR{Name: n, Type: kind, Class: api.IN, TTL: ttl, Data: data}
}

func soa(serial int) string {
	d, _ := rdata.PutSoa(rdata.Soa{M: ex, R: ex, Serial: serial, Expire: 9})
	return d
}

func base(more ...api.RR) []api.RR {
	return append([]api.RR{rr(ex, api.SOA, 5, soa(7)), rr(ex, api.NS, 5, at("ns"))}, more...)
}

func key(n string, kind int) sets.Key {
	return sets.Key{Name: n, Type: kind, Class: api.IN}
}

func same(l, m []sets.Set) bool { return slices.EqualFunc(l, m, sets.Set.Same) }

func many(n int) []api.RR {
	var l []api.RR
	for i := range n {
		l = append(l, rr(at("x"), api.A, 5, string([]byte{1, 2, byte(i >> 8), byte(i)})))
	}
	return l
}

func TestNew(t *testing.T) { // P10.1
	chaos := rr(at("x"), api.A, 5, addr)
	chaos.Class = 3
	for i, c := range []struct {
		apex string
		l    []api.RR
		e    api.Errno
	}{
		{ex, base(), api.OK}, {ex, nil, api.ErrZone}, {"", base(), api.ErrName}, {"\x02EX\x00", []api.RR{{}}, api.ErrName}, {ex, base(rr(at("x"), api.A, 5, "123")), api.ErrForm}, {ex, append(many(400), api.RR{}), api.ErrForm},
		{ex, append(base(), many(298)...), api.OK}, {ex, append(base(), many(299)...), api.ErrLimit}, {ex, many(301), api.ErrLimit}, {ex, base(slices.Repeat(many(1), 299)...), api.ErrLimit},
		{ex, base(rr("\x02ey\x00", api.A, 5, addr)), api.ErrZone}, {ex, base(rr("\x00", api.A, 5, addr)), api.ErrZone}, {ex, base(rr("\x03xex\x00", api.A, 5, addr)), api.ErrZone}, {ex, base(chaos), api.ErrZone},
		{ex, base()[1:], api.ErrZone}, {ex, base()[:1], api.ErrZone}, {ex, base(rr(ex, api.SOA, 9, soa(7))), api.OK}, {ex, base(rr(ex, api.SOA, 5, soa(8))), api.ErrZone}, {ex, base(rr(at("x"), api.SOA, 5, soa(7))), api.ErrZone},
		{ex, []api.RR{rr(at("x"), api.SOA, 5, soa(7)), rr(ex, api.NS, 5, ex)}, api.ErrZone}, {ex, []api.RR{rr(ex, api.SOA, 5, soa(7)), rr(at("x"), api.NS, 5, ex)}, api.ErrZone},
		{ex, base(rr(at("c"), api.CNAME, 5, ex)), api.OK}, {ex, base(rr(at("c"), api.CNAME, 5, ex), rr(at("c"), api.CNAME, 6, ex)), api.OK}, {ex, base(rr(at("c"), api.CNAME, 5, ex), rr(at("c"), api.CNAME, 5, at("y"))), api.ErrZone},
		{ex, base(rr(at("c"), api.CNAME, 5, ex), rr(at("c"), api.A, 5, addr)), api.ErrZone}, {ex, base(rr(ex, api.CNAME, 5, at("y"))), api.ErrZone}, {ex, base(rr(at("c"), api.CNAME, 5, ex), rr(at("b", "c"), api.A, 5, addr)), api.OK},
		{"\x00", []api.RR{rr("\x00", api.SOA, 5, soa(7)), rr("\x00", api.NS, 5, ex)}, api.OK},
	} {
		z, e := zone.New(c.apex, c.l...)
		if e != c.e || (z == nil) != (e != api.OK) {
			t.Errorf("case %d: %d", i, e)
		}
	}
}

func TestWhatItTells(t *testing.T) { // P10.2
	l := base(rr(at("x"), api.A, 5, addr), rr(at("x"), api.A, 3, "\x01\x02\x03\x03"), rr(at("x"), api.A, 5, addr), rr(at("a", "b", "e"), api.TXT, 5, "\x00"), rr(at("y"), api.NS, 4, ex), rr(at("z", "y"), api.NS, 4, at("q")), rr(at("low", "x"), api.NS, 4, ex))
	z, e := zone.New(ex, l...)
	if e != api.OK {
		t.Fatal(e)
	}
	if z.Apex() != ex || z.Len() != 8 || z.Soa() != (rdata.Soa{M: ex, R: ex, Serial: 7, Expire: 9}) {
		t.Errorf("%q, %d, %v", z.Apex(), z.Len(), z.Soa())
	}
	if !same(z.Sets(), sets.Group(l...)) || !slices.Equal(z.Records(), sets.Flat(sets.Group(l...)...)) {
		t.Errorf("%v", z.Sets())
	}
	for _, s := range z.Sets() {
		if g, ok := z.Get(s.Key); !ok || !g.Same(s) {
			t.Errorf("%v: %v", s, g)
		}
	}
	for _, k := range []sets.Key{key(at("x"), api.AAAA), {Name: at("x"), Type: api.A, Class: 3}, key("x", api.A), key(at("b", "e"), api.TXT), key(at("zz"), 1), {}} {
		if g, ok := z.Get(k); ok || !g.Same(sets.Set{}) {
			t.Errorf("%v: %v", k, g)
		}
	}
	for n, want := range map[string]string{
		ex: "", at("x"): "", at("q", "x"): "", at("low", "x"): at("low", "x"), at("a", "b", "low", "x"): at("low", "x"), at("y"): at("y"), at("q", "y"): at("y"), at("z", "y"): at("y"), at("a", "z", "y"): at("y"), at("yy"): "", "\x00": "", "\x01y\x00": "", "": "", "x": "", "\x01Y\x02ex\x00": "",
	} {
		s, ok := z.Cut(n)
		if ok != (want != "") || ok && (s.Key != key(want, api.NS) || !slices.Equal(s.Data, []string{ex})) || !ok && !s.Same(sets.Set{}) {
			t.Errorf("Cut(%q): %v", n, s)
		}
	}
	for n, want := range map[string]bool{
		ex: true, at("x"): true, at("e"): true, at("b", "e"): true, at("a", "b", "e"): true, at("c", "a", "b", "e"): false, at("ns"): false, at("q", "x"): false, "\x00": false, "": false, "x": false, "\x02EX\x00": false,
	} {
		if z.There(n) != want {
			t.Errorf("There(%q)", n)
		}
	}
}

func TestNewOfRecords(t *testing.T) { // P10.4
	r := rand.New(rand.NewSource(10))
	for range 100 {
		l := base()
		for range r.Intn(30) {
			n := at(string(rune('a'+r.Intn(3))), string(rune('a'+r.Intn(3))))
			l = append(l, []api.RR{rr(n, api.A, r.Intn(3), addr), rr(n, api.NS, r.Intn(3), n), rr(n, 300, 1, strings.Repeat("d", r.Intn(3)))}[r.Intn(3)])
		}
		r.Shuffle(len(l), func(i, j int) { l[i], l[j] = l[j], l[i] })
		z, e := zone.New(ex, l...)
		if e != api.OK {
			t.Fatal(e)
		}
		y, e := zone.New(ex, z.Records()...)
		if e != api.OK || !same(y.Sets(), z.Sets()) || y.Len() != z.Len() || z.Len() != len(z.Records()) {
			t.Fatalf("%v", l)
		}
	}
}

func TestListsAreNew(t *testing.T) { // P10.3
	l := base(rr(at("y"), api.NS, 4, ex))
	z, _ := zone.New(ex, l...)
	l[0].Name = "!"
	want := z.Sets()
	s, r := z.Sets(), z.Records()
	s[0].Data[0], r[0].Data = "!", "!"
	g, _ := z.Get(key(ex, api.NS))
	c, _ := z.Cut(at("y"))
	g.Data[0], c.Data[0] = "!", "!"
	if !same(z.Sets(), want) || want[0].Name != ex {
		t.Errorf("%v", z.Sets())
	}
}
