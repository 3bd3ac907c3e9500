package cache_test

import (
	"math"
	"math/rand"
	"slices"
	"testing"

	"rhizome/api"
	"rhizome/cache"
	"rhizome/sets"
)

const (
	a    = "\x01a\x00"
	b    = "\x01b\x00"
	c    = "\x01c\x00"
	ba   = "\x01b\x01a\x00"
	root = "\x00"
)

func made(t *testing.T, most int) *cache.Cache {
	k, e := cache.New(most)
	if e != api.OK {
		t.Fatal(e)
	}
	return k
}

func key(n string, kind int) sets.Key { return sets.Key{Name: n, Type: kind, Class: api.IN} }

// set is an A set of one address.
func set(n string, ttl int, last byte) sets.Set {
	return sets.Set{Key: key(n, api.A), TTL: ttl, Data: []string{string([]byte{1, 2, 3, last})}}
}

func ns(n string) sets.Set { return sets.Set{Key: key(n, api.NS), TTL: 9, Data: []string{a}} }

// told tells the last byte of the address, and the TTL: -1, if there is none.
func told(k *cache.Cache, now int, n string) (int, int) {
	e, ok := k.Peek(now, key(n, api.A))
	if !ok {
		return -1, -1
	}
	return int(e.Data[0][3]), e.TTL
}

func names(k *cache.Cache) string {
	s := ""
	for _, e := range k.Entries() {
		s += e.Name[1:2]
	}
	return s
}

func TestRankNumbers(t *testing.T) {
	if got := [...]int{cache.Glue, cache.Referral, cache.Plain, cache.Auth}; got != [...]int{1, 2, 3, 4} {
		t.Errorf("%v", got)
	}
}

func TestNew(t *testing.T) { // P18.1
	for most, want := range map[int]api.Errno{1: api.OK, 2000: api.OK, 0: api.ErrRange, -1: api.ErrRange, 2001: api.ErrRange, math.MaxInt: api.ErrRange, math.MinInt: api.ErrRange} {
		k, e := cache.New(most)
		if e != want || (k == nil) != (e != api.OK) || k != nil && (k.Len() != 0 || len(k.Entries()) != 0) {
			t.Errorf("%d: %d", most, e)
		}
	}
}

func TestPut(t *testing.T) { // P18.2
	k := made(t, 9)
	wrong := set(a, 5, 1)
	wrong.Data = nil
	if n := k.Put(10, cache.Plain, set(a, 5, 1), wrong, set("x", 5, 1), set(b, 7, 2), sets.Set{}, set(a, 6, 3)); n != 3 || k.Len() != 2 {
		t.Errorf("%d, %d", n, k.Len())
	}
	if d, ttl := told(k, 10, a); d != 3 || ttl != 6 {
		t.Errorf("%d, %d", d, ttl)
	}
	for _, w := range [][2]int{{-1, 3}, {api.MaxTime + 1, 3}, {10, 0}, {10, 5}, {10, -1}, {math.MinInt, math.MaxInt}} {
		if n := k.Put(w[0], w[1], set(c, 5, 1)); n != 0 || k.Len() != 2 {
			t.Errorf("%v: %d", w, n)
		}
	}
	l := k.Entries()
	want := []cache.Entry{{set(a, 6, 3), cache.Plain, 16, 3}, {set(b, 7, 2), cache.Plain, 17, 2}}
	if !slices.EqualFunc(l, want, sameEntry) {
		t.Errorf("%v", l)
	}
}

func sameEntry(x, y cache.Entry) bool {
	return x.Set.Same(y.Set) && x.Rank == y.Rank && x.Until == y.Until && x.Used == y.Used
}

func TestRanks(t *testing.T) { // P18.2, P18.6
	for old := cache.Glue; old <= cache.Auth; old++ {
		for rank := cache.Glue; rank <= cache.Auth; rank++ {
			k := made(t, 9)
			k.Put(0, old, set(a, 10, 1))
			laid := k.Put(9, rank, set(a, 10, 2)) == 1
			d, _ := told(k, 9, a)
			if laid != (rank >= old) || laid != (d == 2) {
				t.Errorf("%d behind %d: %d", rank, old, d)
			}
			if n := k.Put(10, cache.Glue, set(a, 10, 3)); (n == 1) != (!laid || rank == cache.Glue) {
				t.Errorf("%d behind %d, past its time: %d", rank, old, n)
			}
			k = made(t, 9)
			k.No(0, old, 10, key(a, api.A))
			if n := k.Put(9, rank, set(a, 10, 2)); (n == 1) != (rank >= old) {
				t.Errorf("%d behind a negative %d: %d", rank, old, n)
			}
			k = made(t, 9)
			k.Put(0, old, set(a, 10, 1))
			if k.No(9, rank, 5, key(a, api.A)) != (rank >= old) || !k.No(10, cache.Glue, 5, key(b, api.A)) {
				t.Errorf("No of %d behind %d", rank, old)
			}
		}
	}
	k := made(t, 9)
	if k.Put(0, cache.Auth, set(a, 10, 1)); k.Put(5, cache.Glue, set(a, 10, 2)) != 0 {
		t.Error("the example")
	}
	if d, ttl := told(k, 5, a); d != 1 || ttl != 5 {
		t.Errorf("%d, %d", d, ttl)
	}
	if _, ok := k.Get(10, key(a, api.A)); ok {
		t.Error("the example")
	}
}

func TestTimes(t *testing.T) { // P18.2, P18.3, P18.6
	for ttl, until := range map[int]int{0: 1, 1: 1, 604800: 604800, 604801: 604800, 1<<31 - 1: 604800} {
		k := made(t, 9)
		k.Put(100, cache.Auth, set(a, ttl, 1))
		if _, left := told(k, 100, a); left != until {
			t.Errorf("%d: %d", ttl, left)
		}
		if _, left := told(k, 100+until-1, a); left != 1 {
			t.Errorf("%d: %d", ttl, left)
		}
		if d, _ := told(k, 100+until, a); d != -1 {
			t.Errorf("%d: told past its time", ttl)
		}
		if k.Entries()[0].TTL != ttl || k.Entries()[0].Until != 100+until {
			t.Errorf("%d: %v", ttl, k.Entries())
		}
	}
	for ttl, until := range map[int]int{1: 1, 10800: 10800, 10801: 10800, math.MaxInt: 10800} {
		k := made(t, 9)
		if !k.No(100, cache.Auth, ttl, key(a, api.A)) || k.Absent(100+until-1, key(a, api.A)) != 2 || k.Absent(100+until, key(a, api.A)) != 0 {
			t.Errorf("No of %d", ttl)
		}
	}
	k := made(t, 9)
	k.Put(api.MaxTime, cache.Auth, set(a, 9, 1), ns(root))
	k.No(api.MaxTime, cache.Auth, 9, key(b, 0))
	for _, now := range []int{-1, api.MaxTime + 1, math.MinInt, math.MaxInt} {
		_, got := k.Get(now, key(a, api.A))
		_, peeked := k.Peek(now, key(a, api.A))
		_, cut := k.Cut(now, a, false)
		if got || peeked || cut || k.Absent(now, key(b, api.A)) != 0 {
			t.Errorf("told at %d", now)
		}
	}
	if d, ttl := told(k, api.MaxTime, a); d != 1 || ttl != 9 {
		t.Errorf("%d, %d", d, ttl)
	}
}

func TestNo(t *testing.T) { // P18.2, P18.3
	k := made(t, 9)
	for i, w := range []struct {
		now, rank, ttl int
		k              sets.Key
	}{
		{-1, 4, 5, key(a, 1)}, {api.MaxTime + 1, 4, 5, key(a, 1)}, {0, 0, 5, key(a, 1)}, {0, 5, 5, key(a, 1)}, {0, 4, 0, key(a, 1)}, {0, 4, -1, key(a, 1)}, {0, 4, 5, key("a", 1)}, {0, 4, 5, key(a, -1)}, {0, 4, 5, key(a, 65536)},
		{0, 4, 5, sets.Key{Name: a, Type: 1, Class: -1}},
	} {
		if k.No(w.now, w.rank, w.ttl, w.k) || k.Len() != 0 {
			t.Errorf("case %d", i)
		}
	}
	k.Put(0, cache.Plain, set(a, 50, 1), set(c, 50, 1))
	if !k.No(0, cache.Plain, 5, key(a, api.A)) || !k.No(0, cache.Plain, 5, key(b, 0)) || !k.No(1, cache.Auth, 9, sets.Key{Name: c, Type: 7, Class: 3}) {
		t.Error("No")
	}
	if d, _ := told(k, 0, a); d != -1 {
		t.Error("what is not is told")
	}
	if _, ok := k.Get(0, key(a, api.A)); ok {
		t.Error("what is not is told")
	}
	for _, w := range []struct {
		k    sets.Key
		want int
	}{
		{key(a, api.A), 2}, {key(a, api.NS), 0}, {key(b, api.A), 1}, {key(b, 0), 1}, {key(b, -7), 1}, {sets.Key{Name: b, Type: 1, Class: 3}, 0}, {sets.Key{Name: c, Type: 7, Class: 3}, 2}, {key(c, api.A), 0}, {key(c, 7), 0}, {key("", 0), 0},
	} {
		if n := k.Absent(4, w.k); n != w.want {
			t.Errorf("%v: %d", w.k, n)
		}
	}
	if k.Absent(5, key(a, api.A)) != 0 || k.Absent(5, key(b, api.A)) != 0 {
		t.Error("past its time")
	}
	e := k.Entries()[0]
	if !sameEntry(e, cache.Entry{Set: sets.Set{Key: key(a, api.A)}, Rank: cache.Plain, Until: 5, Used: 3}) || !e.Negative() || (cache.Entry{Set: set(a, 1, 1)}).Negative() {
		t.Errorf("%v", e)
	}
	k.No(0, cache.Auth, 50, key(b, api.A))
	if k.Absent(0, key(b, api.A)) != 1 || k.Absent(20, key(b, api.A)) != 2 {
		t.Error("both")
	}
}

func TestPutOverNothing(t *testing.T) { // P18.2
	k := made(t, 9)
	k.No(0, cache.Auth, 99, key(a, 0))
	k.No(0, cache.Auth, 99, sets.Key{Name: a, Class: 3})
	k.No(0, cache.Auth, 99, key(a, api.NS))
	if k.Put(0, cache.Glue, sets.Set{Key: key(a, 300), TTL: 5, Data: []string{""}}) != 1 || k.Absent(0, key(a, api.A)) != 0 || k.Absent(0, key(a, api.NS)) != 2 || k.Absent(0, sets.Key{Name: a, Type: 1, Class: 3}) != 1 {
		t.Errorf("%v", k.Entries())
	}
	k.No(0, cache.Auth, 99, key(b, 0))
	k.No(0, cache.Auth, 99, key(b, api.A))
	if k.Put(0, cache.Plain, set(b, 5, 1)) != 0 || k.Absent(0, key(b, 7)) != 1 {
		t.Error("one that is passed over counts")
	}
	zero := sets.Set{Key: key(c, 0), TTL: 5, Data: []string{"z"}}
	if k.Put(0, cache.Glue, zero, set(c, 5, 1)) != 2 {
		t.Error("Type 0")
	}
	if e, ok := k.Peek(0, key(c, 0)); !ok || !e.Has("z") {
		t.Error("a set of Type 0 is gone")
	}
}

func TestUses(t *testing.T) { // P18.3
	k := made(t, 9)
	k.Put(0, cache.Plain, set(a, 50, 1), set(b, 50, 2))
	if e, ok := k.Get(20, key(a, api.A)); !ok || !sameEntry(e, cache.Entry{set(a, 30, 1), cache.Plain, 50, 3}) {
		t.Errorf("%v", e)
	}
	if e, ok := k.Peek(20, key(b, api.A)); !ok || !sameEntry(e, cache.Entry{set(b, 30, 2), cache.Plain, 50, 2}) {
		t.Errorf("%v", e)
	}
	k.Get(20, key(c, api.A))
	k.Absent(20, key(a, api.A))
	k.Put(0, cache.Glue, set(a, 50, 9))
	if e, _ := k.Get(20, key(b, api.A)); e.Used != 4 {
		t.Errorf("%v", e)
	}
	if e, ok := k.Get(20, key(c, api.A)); ok || !sameEntry(e, cache.Entry{}) {
		t.Errorf("%v", e)
	}
	if e, ok := k.Peek(20, key(c, api.A)); ok || !sameEntry(e, cache.Entry{}) {
		t.Errorf("%v", e)
	}
	if l := k.Entries(); l[0].TTL != 50 || l[0].Used != 3 || l[1].Used != 4 {
		t.Errorf("%v", l)
	}
}

func TestRoom(t *testing.T) { // P18.2, P18.6
	k := made(t, 2)
	k.Put(0, cache.Auth, set(a, 50, 1), set(b, 50, 1))
	k.Get(0, key(a, api.A))
	k.Put(0, cache.Glue, set(c, 50, 1))
	if names(k) != "ac" {
		t.Errorf("the eldest goes: %s", names(k))
	}
	k.Peek(0, key(a, api.A))
	k.No(0, cache.Glue, 5, key(b, 7))
	if names(k) != "bc" {
		t.Errorf("Peek is no use: %s", names(k))
	}
	k.Put(5, cache.Glue, set(a, 50, 1))
	if names(k) != "ac" {
		t.Errorf("what does not count goes ahead: %s", names(k))
	}
	k.Put(6, cache.Glue, set(a, 60, 1), set(c, 60, 1))
	if k.Len() != 2 {
		t.Errorf("one that is there takes no room: %s", names(k))
	}
	k = made(t, 3)
	k.Put(0, cache.Auth, set(a, 5, 1), set(b, 5, 1), set(c, 50, 1))
	k.Put(5, cache.Auth, set(ba, 50, 1))
	if names(k) != "bc" || k.Len() != 2 {
		t.Errorf("all that do not count go: %s", names(k))
	}
	k = made(t, 3)
	k.Put(0, cache.Auth, set(a, 50, 1), set(b, 50, 1))
	k.No(0, cache.Auth, 50, key(c, 0))
	k.Put(0, cache.Auth, set(c, 50, 1))
	if names(k) != "abc" {
		t.Errorf("what Put says is gone goes ahead: %s", names(k))
	}
	k = made(t, 2)
	k.Put(0, cache.Auth, set(a, 5, 1))
	k.Put(5, cache.Auth, set(b, 50, 1))
	if names(k) != "ab" {
		t.Errorf("while there is room nothing goes: %s", names(k))
	}
	k = made(t, 1)
	k.Put(0, cache.Auth, set(a, 50, 1), set(b, 50, 1))
	if names(k) != "b" {
		t.Errorf("the one that is laid stays: %s", names(k))
	}
	k = made(t, 2)
	k.Put(0, cache.Auth, set(a, 5, 1), set(b, 50, 1))
	k.Put(20, cache.Auth, set(a, 5, 2))
	if names(k) != "ab" {
		t.Errorf("%s", names(k))
	}
}

func TestCut(t *testing.T) { // P18.3
	k := made(t, 9)
	k.Put(0, cache.Glue, ns(a), ns(ba), ns(root), set(c, 9, 1), sets.Set{Key: sets.Key{Name: b, Type: api.NS, Class: 3}, TTL: 9, Data: []string{a}})
	k.No(0, cache.Auth, 9, key(c, api.NS))
	deep := "\x01x\x01b\x01a\x00"
	for i, w := range []struct {
		n     string
		above bool
		want  string
	}{
		{a, false, a}, {a, true, root}, {ba, false, ba}, {ba, true, a}, {deep, false, ba}, {deep, true, ba}, {b, false, root}, {c, false, root}, {root, false, root}, {root, true, ""}, {"", false, ""}, {"x", true, ""}, {"\x01A\x00", false, ""}, {"\x01c\x01a\x00", false, a},
	} {
		e, ok := k.Cut(3, w.n, w.above)
		if ok != (w.want != "") || e.Name != w.want || ok && (!e.Is(api.NS) || e.TTL != 6) || !ok && !sameEntry(e, cache.Entry{}) {
			t.Errorf("case %d: %v", i, e)
		}
	}
	if e, ok := k.Cut(9, a, false); ok {
		t.Errorf("%v", e)
	}
	if k.Entries()[0].Used != 3 {
		t.Error("it is a use")
	}
}

func TestEntriesRise(t *testing.T) { // P18.4, P18.6
	r := rand.New(rand.NewSource(18))
	all := []string{root, a, b, c, ba, "\x01c\x01a\x00", "\x01a\x01b\x00"}
	for range 100 {
		most := 1 + r.Intn(5)
		k := made(t, most)
		now := 0
		for range 60 {
			now += r.Intn(3)
			n := all[r.Intn(len(all))]
			before, had := k.Peek(now, key(n, api.A))
			switch r.Intn(4) {
			case 0:
				k.No(now, 1+r.Intn(4), r.Intn(9), key(n, []int{0, 1, 2}[r.Intn(3)]))
			case 1:
				k.Get(now, key(n, api.A))
			default:
				rank := 1 + r.Intn(4)
				laid := k.Put(now, rank, set(n, r.Intn(9), byte(r.Intn(9)))) == 1
				if had && laid != (rank >= before.Rank) {
					t.Fatalf("rank %d over %d", rank, before.Rank)
				}
			}
			l := k.Entries()
			if len(l) > most || k.Len() != len(l) {
				t.Fatalf("%d of %d", len(l), most)
			}
			for i, e := range l {
				if i > 0 && l[i-1].Compare(e.Key) >= 0 {
					t.Fatalf("%v", l)
				}
				if g, ok := k.Peek(now, e.Key); ok != (e.Until > now && !e.Negative()) || ok && (g.TTL != e.Until-now || g.TTL < 1) {
					t.Fatalf("%v at %d: %v", e, now, g)
				}
			}
		}
	}
}

func TestListsAreNew(t *testing.T) { // P18.5
	k := made(t, 9)
	s := set(a, 9, 1)
	k.Put(0, cache.Auth, s, ns(root))
	s.Data[0] = "!"
	g, _ := k.Get(0, key(a, api.A))
	p, _ := k.Peek(0, key(a, api.A))
	u, _ := k.Cut(0, root, false)
	g.Data[0], p.Data[0], u.Data[0], k.Entries()[1].Data[0] = "!", "!", "!", "!"
	if d, _ := told(k, 0, a); d != 1 {
		t.Errorf("%v", k.Entries())
	}
	if e, _ := k.Peek(0, key(root, api.NS)); e.Data[0] != a {
		t.Errorf("%v", e)
	}
}
