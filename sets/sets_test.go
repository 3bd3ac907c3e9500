package sets

import (
	"math"
	"math/rand"
	"slices"
	"testing"

	"rhizome/api"
	"rhizome/name"
)

const (
	a    = "\x01a\x00"
	b    = "\x01b\x00"
	ba   = "\x01b\x01a\x00"
	root = "\x00"
)

func rr(n string, kind, ttl int, data string) api.RR {
	return api.RR{Name: n, Type: kind, Class: api.IN, TTL: ttl, Data: data}
}

func same(l, m []Set) bool {
	return slices.EqualFunc(l, m, Set.Same)
}

func TestKeys(t *testing.T) { // P4.1
	rising := []Key{
		{root, 9, 0}, {root, 1, 1}, {root, 2, 1}, {root, 1, 2}, {a, -1, -5}, {a, math.MinInt, 1}, {a, 5, 1}, {a, math.MaxInt, 1}, {a, 1, 3}, {ba, 1, 1}, {b, 1, 1}, {"", 1, 1}, {"x", 1, 1},
	}
	for i, k := range rising {
		for j, o := range rising {
			want := 0
			if i < j {
				want = -1
			} else if i > j {
				want = 1
			}
			s := Set{Key: k}
			if k.Compare(o) != want || s.Compare(o) != want {
				t.Errorf("%v, %v: %d", k, o, k.Compare(o))
			}
		}
	}
	k := Key{a, api.A, 1}
	if k.Is() || !k.Is(api.A) || k.Is(api.NS, 7) || !k.Is(api.NS, api.A) || !(Set{Key: k}).Is(1) {
		t.Error("Is")
	}
	for _, c := range []struct {
		k    Key
		want bool
	}{
		{k, true}, {Key{root, 0, 0}, true}, {Key{a, 65535, 65535}, true}, {Key{a, 65536, 1}, false}, {Key{a, 1, 65536}, false}, {Key{a, -1, 1}, false}, {Key{a, 1, -1}, false},
		{Key{"", 1, 1}, false}, {Key{"\x01A\x00", 1, 1}, false}, {Key{}, false},
	} {
		if c.k.May() != c.want || (Set{Key: c.k}).May() != c.want {
			t.Errorf("May of %v", c.k)
		}
	}
	if KeyOf(api.RR{Name: a, Type: 2, Class: 3, TTL: 4, Data: "x"}) != (Key{a, 2, 3}) {
		t.Error("KeyOf")
	}
}

func TestGroup(t *testing.T) { // P4.2
	got := Group(rr(b, 1, 9, "z"), rr(a, 2, 5, "q"), rr(b, 1, 3, "a"), rr(b, 1, 7, "z"), rr(a, 1, 5, "q"), api.RR{Name: a, Type: 9, Class: 0, TTL: -4, Data: ""}, rr("?", 1, 1, ""))
	want := []Set{
		{Key{a, 9, 0}, -4, []string{""}}, {Key{a, 1, 1}, 5, []string{"q"}}, {Key{a, 2, 1}, 5, []string{"q"}}, {Key{b, 1, 1}, 3, []string{"a", "z"}}, {Key{"?", 1, 1}, 1, []string{""}},
	}
	if !same(got, want) {
		t.Errorf("%v", got)
	}
	if l := Group(); len(l) != 0 {
		t.Errorf("of none: %v", l)
	}
	if l := Group(rr(a, 1, 5, "1"), rr(a, 1, 5, "2")); len(l) != 1 {
		t.Errorf("the example: %v", l)
	}
}

func TestGroupOfFlatOfGroup(t *testing.T) { // P4.4
	r := rand.New(rand.NewSource(4))
	names := []string{root, a, b, ba, "", "x"}
	for range 300 {
		var l []api.RR
		for range r.Intn(12) {
			l = append(l, api.RR{Name: names[r.Intn(6)], Type: r.Intn(3), Class: r.Intn(2), TTL: r.Intn(4), Data: string(rune('a' + r.Intn(3)))})
		}
		g := Group(l...)
		if !same(Group(Flat(g...)...), g) {
			t.Fatalf("%v", l)
		}
		for i, s := range g {
			if i > 0 && g[i-1].Compare(s.Key) >= 0 || !slices.IsSorted(s.Data) || len(slices.Compact(slices.Clone(s.Data))) != len(s.Data) {
				t.Fatalf("%v", g)
			}
		}
		for _, x := range l {
			s, ok := Find(g, KeyOf(x))
			if !ok || !s.Has(x.Data) || s.TTL > x.TTL {
				t.Fatalf("%v lacks %v", g, x)
			}
		}
		r.Shuffle(len(l), func(i, j int) { l[i], l[j] = l[j], l[i] })
		if !same(Group(l...), g) {
			t.Fatalf("the order counts: %v", l)
		}
	}
}

func TestRecordsAndFlat(t *testing.T) { // P4.2
	s := Set{Key{a, 1, 3}, 5, []string{"z", "b", "z"}}
	l := s.Records()
	if !slices.Equal(l, []api.RR{{Name: a, Type: 1, Class: 3, TTL: 5, Data: "z"}, {Name: a, Type: 1, Class: 3, TTL: 5, Data: "b"}, {Name: a, Type: 1, Class: 3, TTL: 5, Data: "z"}}) {
		t.Errorf("%v", l)
	}
	o := Set{Key{b, 2, 1}, 6, []string{"c"}}
	if got := Flat(o, Set{}, s); !slices.Equal(got, append(o.Records(), s.Records()...)) {
		t.Errorf("%v", got)
	}
	if len(Flat()) != 0 || len((Set{}).Records()) != 0 {
		t.Error("of none")
	}
}

func TestSameHasFind(t *testing.T) { // P4.2
	s := Set{Key{a, 1, 1}, 5, []string{"b", "c"}}
	for i, o := range []Set{
		{Key{b, 1, 1}, 5, []string{"b", "c"}}, {Key{a, 2, 1}, 5, []string{"b", "c"}}, {Key{a, 1, 2}, 5, []string{"b", "c"}}, {Key{a, 1, 1}, 6, []string{"b", "c"}},
		{Key{a, 1, 1}, 5, []string{"c", "b"}}, {Key{a, 1, 1}, 5, []string{"b"}}, {Key{a, 1, 1}, 5, []string{"b", "c", "c"}},
	} {
		if s.Same(o) || o.Same(s) {
			t.Errorf("case %d", i)
		}
	}
	if !s.Same(Copy(s)) || !(Set{Data: []string{}}).Same(Set{}) {
		t.Error("Same")
	}
	if !s.Has("b") || !s.Has("c") || s.Has("") || s.Has("bc") || (Set{}).Has("") {
		t.Error("Has")
	}
	l := []Set{s, {Key{a, 1, 1}, 7, []string{"x"}}, {Key{b, 1, 1}, 8, []string{"y"}}}
	if f, ok := Find(l, Key{a, 1, 1}); !ok || !f.Same(s) {
		t.Errorf("%v", f)
	}
	if f, ok := Find(l, Key{b, 1, 1}); !ok || !f.Same(l[2]) {
		t.Errorf("%v", f)
	}
	for _, k := range []Key{{b, 2, 1}, {b, 1, 2}, {ba, 1, 1}, {}} {
		if f, ok := Find(l, k); ok || !f.Same(Set{}) {
			t.Errorf("%v", f)
		}
	}
}

func TestMaySet(t *testing.T) { // P4.2
	for i, c := range []struct {
		s    Set
		want bool
	}{
		{Set{Key{a, 1, 1}, 5, []string{"1234", "1235"}}, true}, {Set{Key{a, 1, 1}, 5, []string{"1235", "1234"}}, false}, {Set{Key{a, 1, 1}, 5, []string{"1234", "1234"}}, false},
		{Set{Key{a, 1, 1}, 5, nil}, false}, {Set{Key{a, 1, 1}, 5, []string{"123"}}, false}, {Set{Key{a, 1, 1}, 5, []string{"1234", "12355"}}, false},
		{Set{Key{a, 1, 1}, -1, []string{"1234"}}, false}, {Set{Key{"a", 1, 1}, 1, []string{"1234"}}, false}, {Set{Key{a, api.OPT, 1}, 1, []string{"1234"}}, false},
		{Set{Key{a, 0, 1}, 0, []string{""}}, true}, {Set{Key{a, 1, 65536}, 0, []string{"1234"}}, false},
	} {
		if MaySet(c.s) != c.want {
			t.Errorf("case %d", i)
		}
	}
}

func TestListsAreNew(t *testing.T) { // P4.3
	l := []api.RR{rr(b, 1, 9, "z"), rr(a, 1, 5, "q"), rr(b, 1, 3, "a"), rr(root, 1, 3, "a")}
	before := slices.Clone(l)
	g := Group(l[:3]...)
	for i := range g {
		g[i].Data[0] = "!"
		_ = append(g[i].Data, "?")
		_ = append(g[i].Data[:0], "?", "?")
	}
	if !slices.Equal(l, before) {
		t.Errorf("%v", l)
	}
	s := Set{Key{a, 1, 1}, 5, []string{"b", "c"}}
	c, f := Copy(s), Set{}
	f, _ = Find([]Set{s}, s.Key)
	c.Data[0], f.Data[1] = "!", "!"
	Flat(s)[0].Data = "!"
	if s.Data[0] != "b" || s.Data[1] != "c" {
		t.Errorf("%v", s)
	}
	if name.Compare(g[0].Name, g[1].Name) >= 0 {
		t.Errorf("%v", g)
	}
}
