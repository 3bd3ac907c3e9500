package sets_test

import (
	"math"
	"math/rand"
	"slices"
	"testing"

	"rhizome/api"
	"rhizome/name"
	"rhizome/sets"
)

const (
	a    = "\x01a\x00"
	b    = "\x01b\x00"
	ba   = "\x01b\x01a\x00"
	root = "\x00"
)

func rr(n string, kind, ttl int, data string) api.RR {
	return api.RR{Name: n, Type: kind, Class: api.IN, TTL: ttl, Data: data}
}

func same(l, m []sets.Set) bool {
	return slices.EqualFunc(l, m, sets.Set.Same)
}

func TestKeys(t *testing.T) { // P4.1
	rising := []sets.Key{
		{root, 9, 0}, {root, 1, 1}, {root, 2, 1}, {root, 1, 2}, {a, -1, -5}, {a, math.MinInt, 1}, {a, 5, 1}, {a, math.MaxInt, 1}, {a, 1, 3}, {ba, 1, 1}, {b, 1, 1}, {"", 1, 1}, {"x", 1, 1},
	}
	for i, k := range rising {
		for j, o := range rising {
			want := 0
			if i < j {
				want = -1
			} else if i > j {
				want = 1
			}
			s := sets.Set{Key: k}
			if k.Compare(o) != want || s.Compare(o) != want {
				t.Errorf("%v, %v: %d", k, o, k.Compare(o))
			}
		}
	}
	k := sets.Key{a, api.A, 1}
	if k.Is() || !k.Is(api.A) || k.Is(api.NS, 7) || !k.Is(api.NS, api.A) || !(sets.Set{Key: k}).Is(1) {
		t.Error("Is")
	}
	for _, c := range []struct {
		k    sets.Key
		want bool
	}{
		{k, true}, {sets.Key{root, 0, 0}, true}, {sets.Key{a, 65535, 65535}, true}, {sets.Key{a, 65536, 1}, false}, {sets.Key{a, 1, 65536}, false}, {sets.Key{a, -1, 1}, false}, {sets.Key{a, 1, -1}, false},
		{sets.Key{"", 1, 1}, false}, {sets.Key{"\x01A\x00", 1, 1}, false}, {sets.Key{}, false},
	} {
		if c.k.May() != c.want || (sets.Set{Key: c.k}).May() != c.want {
			t.Errorf("May of %v", c.k)
		}
	}
	if sets.KeyOf(api.RR{Name: a, Type: 2, Class: 3, TTL: 4, Data: "x"}) != (sets.Key{a, 2, 3}) {
		t.Error("KeyOf")
	}
}

func TestGroup(t *testing.T) { // P4.2
	got := sets.Group(rr(b, 1, 9, "z"), rr(a, 2, 5, "q"), rr(b, 1, 3, "a"), rr(b, 1, 7, "z"), rr(a, 1, 5, "q"), api.RR{Name: a, Type: 9, Class: 0, TTL: -4, Data: ""}, rr("?", 1, 1, ""))
	want := []sets.Set{
		{sets.Key{a, 9, 0}, -4, []string{""}}, {sets.Key{a, 1, 1}, 5, []string{"q"}}, {sets.Key{a, 2, 1}, 5, []string{"q"}}, {sets.Key{b, 1, 1}, 3, []string{"a", "z"}}, {sets.Key{"?", 1, 1}, 1, []string{""}},
	}
	if !same(got, want) {
		t.Errorf("%v", got)
	}
	if l := sets.Group(); len(l) != 0 {
		t.Errorf("of none: %v", l)
	}
	if l := sets.Group(rr(a, 1, 5, "1"), rr(a, 1, 5, "2")); len(l) != 1 {
		t.Errorf("the example: %v", l)
	}
}

func TestGroupOfFlatOfGroup(t *testing.T) { // P4.4
	r := rand.New(rand.NewSource(4))
	names := []string{root, a, b, ba, "", "x"}
	for range 300 {
		var l []api.RR
		for range r.Intn(12) {
			l = append(l, api.RR{Name: names[r.Intn(6)], Type: r.Intn(3), Class: r.Intn(2), TTL: r.Intn(4), Data: string(rune('a' + r.Intn(3)))})
		}
		g := sets.Group(l...)
		if !same(sets.Group(sets.Flat(g...)...), g) {
			t.Fatalf("%v", l)
		}
		for i, s := range g {
			if i > 0 && g[i-1].Compare(s.Key) >= 0 || !slices.IsSorted(s.Data) || len(slices.Compact(slices.Clone(s.Data))) != len(s.Data) {
				t.Fatalf("%v", g)
			}
		}
		for _, x := range l {
			s, ok := sets.Find(g, sets.KeyOf(x))
			if !ok || !s.Has(x.Data) || s.TTL > x.TTL {
				t.Fatalf("%v lacks %v", g, x)
			}
		}
		r.Shuffle(len(l), func(i, j int) { l[i], l[j] = l[j], l[i] })
		if !same(sets.Group(l...), g) {
			t.Fatalf("the order counts: %v", l)
		}
	}
}

func TestRecordsAndFlat(t *testing.T) { // P4.2
	s := sets.Set{sets.Key{a, 1, 3}, 5, []string{"z", "b", "z"}}
	l := s.Records()
	if !slices.Equal(l, []api.RR{{Name: a, Type: 1, Class: 3, TTL: 5, Data: "z"}, {Name: a, Type: 1, Class: 3, TTL: 5, Data: "b"}, {Name: a, Type: 1, Class: 3, TTL: 5, Data: "z"}}) {
		t.Errorf("%v", l)
	}
	o := sets.Set{sets.Key{b, 2, 1}, 6, []string{"c"}}
	if got := sets.Flat(o, sets.Set{}, s); !slices.Equal(got, append(o.Records(), s.Records()...)) {
		t.Errorf("%v", got)
	}
	if len(sets.Flat()) != 0 || len((sets.Set{}).Records()) != 0 {
		t.Error("of none")
	}
}

func TestSameHasFind(t *testing.T) { // P4.2
	s := sets.Set{sets.Key{a, 1, 1}, 5, []string{"b", "c"}}
	for i, o := range []sets.Set{
		{sets.Key{b, 1, 1}, 5, []string{"b", "c"}}, {sets.Key{a, 2, 1}, 5, []string{"b", "c"}}, {sets.Key{a, 1, 2}, 5, []string{"b", "c"}}, {sets.Key{a, 1, 1}, 6, []string{"b", "c"}},
		{sets.Key{a, 1, 1}, 5, []string{"c", "b"}}, {sets.Key{a, 1, 1}, 5, []string{"b"}}, {sets.Key{a, 1, 1}, 5, []string{"b", "c", "c"}},
	} {
		if s.Same(o) || o.Same(s) {
			t.Errorf("case %d", i)
		}
	}
	if !s.Same(sets.Copy(s)) || !(sets.Set{Data: []string{}}).Same(sets.Set{}) {
		t.Error("Same")
	}
	if !s.Has("b") || !s.Has("c") || s.Has("") || s.Has("bc") || (sets.Set{}).Has("") {
		t.Error("Has")
	}
	l := []sets.Set{s, {sets.Key{a, 1, 1}, 7, []string{"x"}}, {sets.Key{b, 1, 1}, 8, []string{"y"}}}
	if f, ok := sets.Find(l, sets.Key{a, 1, 1}); !ok || !f.Same(s) {
		t.Errorf("%v", f)
	}
	if f, ok := sets.Find(l, sets.Key{b, 1, 1}); !ok || !f.Same(l[2]) {
		t.Errorf("%v", f)
	}
	for _, k := range []sets.Key{{b, 2, 1}, {b, 1, 2}, {ba, 1, 1}, {}} {
		if f, ok := sets.Find(l, k); ok || !f.Same(sets.Set{}) {
			t.Errorf("%v", f)
		}
	}
}

func TestMaySet(t *testing.T) { // P4.2
	for i, c := range []struct {
		s    sets.Set
		want bool
	}{
		{sets.Set{sets.Key{a, 1, 1}, 5, []string{"1234", "1235"}}, true}, {sets.Set{sets.Key{a, 1, 1}, 5, []string{"1235", "1234"}}, false}, {sets.Set{sets.Key{a, 1, 1}, 5, []string{"1234", "1234"}}, false},
		{sets.Set{sets.Key{a, 1, 1}, 5, nil}, false}, {sets.Set{sets.Key{a, 1, 1}, 5, []string{"123"}}, false}, {sets.Set{sets.Key{a, 1, 1}, 5, []string{"1234", "12355"}}, false},
		{sets.Set{sets.Key{a, 1, 1}, -1, []string{"1234"}}, false}, {sets.Set{sets.Key{"a", 1, 1}, 1, []string{"1234"}}, false}, {sets.Set{sets.Key{a, api.OPT, 1}, 1, []string{"1234"}}, false},
		{sets.Set{sets.Key{a, 0, 1}, 0, []string{""}}, true}, {sets.Set{sets.Key{a, 1, 65536}, 0, []string{"1234"}}, false},
	} {
		if sets.MaySet(c.s) != c.want {
			t.Errorf("case %d", i)
		}
	}
}

func TestListsAreNew(t *testing.T) { // P4.3
	l := []api.RR{rr(b, 1, 9, "z"), rr(a, 1, 5, "q"), rr(b, 1, 3, "a"), rr(root, 1, 3, "a")}
	before := slices.Clone(l)
	g := sets.Group(l[:3]...)
	for i := range g {
		g[i].Data[0] = "!"
		_ = append(g[i].Data, "?")
		_ = append(g[i].Data[:0], "?", "?")
	}
	if !slices.Equal(l, before) {
		t.Errorf("%v", l)
	}
	s := sets.Set{sets.Key{a, 1, 1}, 5, []string{"b", "c"}}
	c, f := sets.Copy(s), sets.Set{}
	f, _ = sets.Find([]sets.Set{s}, s.Key)
	c.Data[0], f.Data[1] = "!", "!"
	sets.Flat(s)[0].Data = "!"
	if s.Data[0] != "b" || s.Data[1] != "c" {
		t.Errorf("%v", s)
	}
	if name.Compare(g[0].Name, g[1].Name) >= 0 {
		t.Errorf("%v", g)
	}
}
