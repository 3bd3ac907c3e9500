package script_test

import (
	"fmt"
	"math"
	"math/rand"
	"slices"
	"strings"
	"testing"

	"rhizome/api"
	"rhizome/auth"
	"rhizome/front"
	"rhizome/md"
	"rhizome/name"
	"rhizome/rdata"
	"rhizome/script"
	"rhizome/sets"
	"rhizome/wire"
	"rhizome/world"
	"rhizome/zone"
)

const root = "\x00"

func h(i int) string { return string([]byte{192, 0, 2, byte(i)}) }

func n(text string) string {
	s, e := name.Parse(text)
	if e != api.OK {
		panic(text)
	}
	return s
}

// lines tells records as text, in order.
func lines(l []api.RR) []string {
	var all []string
	for _, r := range l {
		text, _ := name.Print(r.Name)
		data := fmt.Sprintf("%x", r.Data)
		switch r.Type {
		case api.A:
			data = fmt.Sprint(r.Data[0], r.Data[1], r.Data[2], r.Data[3])
		case api.NS, api.CNAME:
			data, _ = name.Print(r.Data)
		case api.SOA:
			s, _ := rdata.GetSoa(r.Data)
			s.M, _ = name.Print(s.M)
			s.R, _ = name.Print(s.R)
			data = fmt.Sprint(s)
		case api.ZONEMD:
			data = "digest"
		}
		all = append(all, fmt.Sprint(text, " ", r.Class, " ", r.TTL, " ", r.Type, " ", data))
	}
	slices.Sort(all)
	return all
}

func TestRoot(t *testing.T) { // P25.1
	for _, serial := range []int{0, 1, 6, 7, 1<<32 - 1} {
		z, e := script.Root(serial)
		if e != api.OK || z.Apex() != root || md.Check(root, z.Records()...) != api.OK {
			t.Fatalf("%d: %d", serial, e)
		}
		want := []string{
			fmt.Sprint(". 1 60 6 {a. b. ", serial, " 100 20 400 30}"), ". 1 60 63 digest", ". 1 60 2 a.", "a. 1 60 1 192 0 2 1", "com. 1 50 2 ns.com.", "net. 1 50 2 ns.net.", "ns.com. 1 50 1 192 0 2 2", "ns.net. 1 50 1 192 0 2 3",
		}
		if serial%2 == 1 {
			want = append(want, "org. 1 50 2 ns.net.")
		}
		slices.Sort(want)
		if l := lines(z.Records()); !slices.Equal(l, want) {
			t.Errorf("%d: %q", serial, l)
		}
	}
	for _, serial := range []int{-1, 1 << 32, math.MinInt, math.MaxInt} {
		if z, e := script.Root(serial); z != nil || e != api.ErrRange {
			t.Errorf("%d: %d", serial, e)
		}
	}
}

func TestChild(t *testing.T) { // P25.1
	for _, c := range []struct{ n, ns, www int }{{0, 2, 100}, {1, 3, 101}, {2, 4, 102}, {49, 3, 149}, {50, 4, 100}, {1<<32 - 1, 2, 100 + (1<<32-1)%50}} {
		z, e := script.Child(n("x.y."), c.n)
		if e != api.OK || z.Apex() != n("x.y.") {
			t.Fatalf("%d: %d", c.n, e)
		}
		want := []string{
			fmt.Sprint("x.y. 1 40 6 {ns.x.y. ns.x.y. ", c.n, " 100 20 400 30}"), "x.y. 1 40 2 ns.x.y.", fmt.Sprint("ns.x.y. 1 40 1 192 0 2 ", c.ns), fmt.Sprint("www.x.y. 1 20 1 192 0 2 ", c.www), "al.x.y. 1 20 5 www.com.", "dn.x.y. 1 40 2 ns.com.",
		}
		slices.Sort(want)
		if l := lines(z.Records()); !slices.Equal(l, want) {
			t.Errorf("%d: %q", c.n, l)
		}
	}
	long := func(size int) string { // a name of so many bytes
		return n(strings.Repeat(strings.Repeat("x", 63)+".", 3) + strings.Repeat("y", size-194) + ".")
	}
	for i, c := range []struct {
		apex string
		n    int
		e    api.Errno
	}{{"", 0, api.ErrName}, {"com", -1, api.ErrName}, {"\x03COM\x00", 0, api.ErrName}, {root, 0, api.ErrName}, {n("com."), -1, api.ErrRange}, {n("com."), 1 << 32, api.ErrRange}, {long(251), 0, api.OK}, {long(252), 0, api.ErrLong}, {long(252), -1, api.ErrLong}, {long(255), 0, api.ErrLong}} {
		if z, e := script.Child(c.apex, c.n); e != c.e || (z == nil) != (e != api.OK) {
			t.Errorf("case %d: %d", i, e)
		}
	}
}

func TestHintsAndServers(t *testing.T) { // P25.2
	l := script.Hints()
	if len(l) != 2 || !slices.Equal(lines(l[:1][0].Records()), []string{". 1 60 2 a."}) || !slices.Equal(lines(l[1].Records()), []string{"a. 1 60 1 192 0 2 1"}) {
		t.Errorf("%v", l)
	}
	for serial, count := range map[int]int{0: 1, 7: 1, -1: 0, 1 << 32: 0} {
		l := script.Servers(serial)
		var got []string
		for _, s := range l {
			for _, z := range s.Zones {
				text, _ := name.Print(z.Apex())
				got = append(got, fmt.Sprint(s.Addr[3], " ", text, " ", z.Soa().Serial))
			}
		}
		want := []string{fmt.Sprint("1 . ", serial), "2 com. 0", "2 dn.com. 0", "2 dn.net. 0", "2 dn.org. 0", "3 net. 1", "3 org. 1"}[1-count:]
		if len(l) != 3 || l[0].Addr != "\xc0\x00\x02\x01" || !slices.Equal(got, want) {
			t.Errorf("%d: %q", serial, got)
		}
	}
}

func TestAsk(t *testing.T) { // P25.3
	texts := []string{"www.com.", "al.com.", "www.net.", "al.net.", "www.dn.com.", "none.com.", "none.", "www.org.", "."}
	for _, k := range []int{0, 1, 8, 9, 17, 18, 26, 27, 35, 36, 100, 65535, 65536, 65536*9 + 5, math.MaxInt} {
		m, e := wire.Decode(script.Ask(k))
		want := wire.Ask(k%65536, api.Question{Name: n(texts[k%9]), Type: []int{1, 2, 5, 6}[k/9%4], Class: 1})
		want.RD = true
		if e != api.OK || !wire.Same(m, want) {
			t.Errorf("%d: %v", k, m)
		}
	}
	for _, k := range []int{-1, math.MinInt} {
		if string(script.Ask(k)) != string(script.Ask(0)) {
			t.Errorf("%d", k)
		}
	}
}

func sameAct(a, b world.Act) bool {
	return a.Kind == b.Kind && a.N == b.N && a.K == b.K && a.From == b.From && a.Flag == b.Flag && string(a.Bytes) == string(b.Bytes) && a.Server.Addr == b.Server.Addr &&
		slices.EqualFunc(a.Server.Zones, b.Server.Zones, func(y, z *zone.Zone) bool { return slices.Equal(y.Records(), z.Records()) })
}

func TestActs(t *testing.T) { // P25.3
	for _, c := range []struct {
		k, x, y byte
		want    world.Act
	}{
		{0, 0, 0, world.Act{Kind: world.Query, From: "c0", Bytes: script.Ask(0)}}, {4, 5, 200, world.Act{Kind: world.Query, From: "c2", Bytes: script.Ask(5*256 + 200)}}, {16 + 3, 4, 201, world.Act{Kind: world.Query, From: "c1", Bytes: script.Ask(4*256 + 201), Flag: true}}, {2, 255, 255, world.Act{Kind: world.Query, From: "c0", Bytes: script.Ask(65535), Flag: true}},
		{5, 4, 6, world.Act{Kind: world.Deliver, K: 1, N: 2}}, {9, 5, 230, world.Act{Kind: world.Deliver, K: 2, N: 1}}, {240 + 7, 3, 231, world.Act{Kind: world.Deliver, N: 2, Flag: true}}, {10, 8, 99, world.Act{Kind: world.Lose, K: 2}},
		{11, 15, 1, world.Act{Kind: world.Tick, N: 7}}, {12, 15, 1, world.Act{Kind: world.Tick, N: 140}}, {12, 8, 1, world.Act{Kind: world.Tick}},
		{13, 6, 3, world.Act{Kind: world.Serve, Server: script.Servers(6)[0]}}, {13, 7, 4, world.Act{Kind: world.Serve, Server: script.Servers(7)[1]}}, {13, 7, 255, world.Act{Kind: world.Serve, Server: script.Servers(7)[0]}}, {13, 255, 5, world.Act{Kind: world.Serve, Server: script.Servers(255)[2]}},
		{14, 200, 9, world.Act{Kind: world.Plan, N: 3, Bytes: []byte{9}}}, {14, 5, 0, world.Act{Kind: world.Plan, N: 6, Bytes: []byte{0}}}, {14, 201, 9, world.Act{Kind: world.Fall, Bytes: []byte{9}}},
		{15, 77, 99, world.Act{Kind: world.Start, N: 77}}, {15, 201, 99, world.Act{Kind: world.Start, N: 201}}, {15, 255, 255, world.Act{Kind: world.Start, N: 255, Flag: true}}, {14, 255, 255, world.Act{Kind: world.Fall, Bytes: []byte{255}}}, {15, 77, 240, world.Act{Kind: world.Start, N: 77}}, {15, 77, 241, world.Act{Kind: world.Start, N: 77, Flag: true}}, {15, 77, 141, world.Act{Kind: world.Start, N: 77}},
		{15, 77, 100, world.Act{Kind: world.Raw, K: 2, Bytes: []byte{77, 100, 15}}}, {31, 78, 140, world.Act{Kind: world.Raw, Bytes: []byte{78, 140, 31}}},
	} {
		if l := script.Acts(c.k, c.x, c.y); len(l) != 1 || !sameAct(l[0], c.want) {
			t.Errorf("%d %d %d: %v, not %v", c.k, c.x, c.y, l, c.want)
		}
	}
	if len(script.Acts()) != 0 || len(script.Acts(1)) != 0 || len(script.Acts(1, 2)) != 0 || len(script.Acts(1, 2, 3, 4, 5)) != 1 || len(script.Acts(make([]byte, 1500)...)) != 500 || len(script.Acts(make([]byte, 1503)...)) != 500 || len(script.Acts(make([]byte, 1499)...)) != 499 {
		t.Error("how many")
	}
	if l := script.Acts(10, 1, 0, 11, 2, 0); !sameAct(l[0], world.Act{Kind: world.Lose, K: 1}) || !sameAct(l[1], world.Act{Kind: world.Tick, N: 2}) {
		t.Errorf("%v", l)
	}
}

func TestLine(t *testing.T) { // P25.4
	q := api.Question{Name: n("www.com."), Type: 1, Class: 1}
	s := sets.Set{Key: sets.Key{Name: n("x."), Type: 28}, Data: []string{"\x01\xff", ""}}
	for _, c := range []struct {
		q    api.Question
		l    []sets.Set
		want string
	}{
		{q, nil, "www.com. 1"}, {api.Question{Name: root, Type: 257}, []sets.Set{{Key: sets.Key{Type: 65535}, Data: []string{"\x10"}}}, ". 257 65535:10"}, {q, []sets.Set{s, {}, {Key: sets.Key{Type: -3}, Data: []string{"a"}}}, "www.com. 1 28:01ff 28: -3:61"}, {api.Question{Name: "", Type: -7}, nil, "? -7"}, {api.Question{Name: root}, nil, ". 0"}, {api.Question{Name: "\x01A\x00"}, []sets.Set{s}, "? 0 28:01ff 28:"},
	} {
		if got := script.Line(c.q, c.l...); got != c.want {
			t.Errorf("%q, not %q", got, c.want)
		}
	}
}

func TestListsAreNew(t *testing.T) { // P25.5
	script.Hints()[0].Data[0], script.Ask(0)[0], script.Servers(1)[1].Zones[0] = "!", 9, nil
	b := []byte{15, 77, 100}
	l := script.Acts(b...)
	b[1] = 0
	script.Acts(13, 1, 1)[0].Server.Zones[0] = nil
	if script.Hints()[0].Data[0] != n("a.") || script.Ask(0)[0] != 0 || script.Servers(1)[1].Zones[0] == nil || string(l[0].Bytes) != "Md\x0f" || script.Acts(13, 1, 1)[0].Server.Zones[0] == nil {
		t.Error("what is handed out is kept")
	}
}

// follow tells what the zones of the servers say, from the root on.
func follow(l []world.Server, q api.Question) (int, []sets.Set) {
	var an []sets.Set
	at := 0
	for {
		r := world.Best(q, l[at].Zones...)
		an = append(an, r.An...)
		switch r.Kind {
		case auth.Refer:
			at = int(r.Ar[0].Data[0][3]) - 1
		case auth.Alias:
			q.Name, at = r.An[0].Data[0], 0
		default:
			return r.Rcode, an
		}
	}
}

func TestEachQuestionIsAnsweredAsTheZonesSay(t *testing.T) { // P25.6
	for _, serial := range []int{6, 7} {
		for _, pulled := range []bool{false, true} {
			w, e := world.New(40, serial, 100, script.Hints(), h(1))
			if e != api.OK {
				t.Fatal(e)
			}
			l := script.Servers(serial)
			for _, s := range l {
				w.Do(world.Act{Kind: world.Serve, Server: s})
			}
			if pulled {
				w.Run(world.Act{Kind: world.Tick}, world.Act{Kind: world.Deliver}, world.Act{Kind: world.Deliver, N: 3})
			}
			if _, ok := w.Resolver().Held(); ok != pulled {
				t.Fatal("Held")
			}
			for k := range 144 {
				before := len(w.Told())
				w.Do(world.Act{Kind: world.Query, From: "c", Flag: true, Bytes: script.Ask(k)})
				for len(w.Out()) > 0 {
					w.Do(world.Act{Kind: world.Deliver, Flag: k%3 == 0})
				}
				m, _ := wire.Decode(script.Ask(k))
				rcode, an := follow(l, m.Q[0])
				want := front.Reply(front.Client{Question: m.Q[0], ID: k, Size: api.MaxMsg, RD: true}, rcode, an...)
				told := w.Told()
				if len(told) != before+1 || string(told[before].Bytes) != string(want) {
					t.Errorf("%s: %x, not %x", script.Line(m.Q[0], an...), told[before:], want)
				}
			}
		}
	}
}

func TestWorldsOfBytes(t *testing.T) { // P25.3: the whole holds in each of them
	r := rand.New(rand.NewSource(25))
	for range 200 {
		b := make([]byte, 900)
		r.Read(b)
		run := func() ([]world.Told, *world.World) {
			w, e := world.New(20+int(b[0])%20, 5, 1+int(b[1])%60, script.Hints(), h(1), h(2))
			if e != api.OK {
				t.Fatal(e)
			}
			for _, s := range script.Servers(int(b[2])) {
				w.Do(world.Act{Kind: world.Serve, Server: s})
			}
			w.Run(script.Acts(b...)...)
			return w.Told(), w
		}
		told, w := run()
		again, _ := run()
		if !slices.EqualFunc(told, again, func(x, y world.Told) bool {
			return x.Act == y.Act && x.Now == y.Now && x.To == y.To && string(x.Bytes) == string(y.Bytes)
		}) {
			t.Fatal("it is not the same each time")
		}
		if w.Resolver() == nil {
			continue
		}
		if z, ok := w.Resolver().Held(); ok && md.Check(root, z.Records()...) != api.OK {
			t.Fatal("what is held is not whole")
		}
		if e := w.Resolver().Engine(); len(e.Jobs()) > api.MaxJobs || e.Len() > 60 || w.Disk().Sectors() < 20 {
			t.Fatal("bounds")
		}
	}
}
