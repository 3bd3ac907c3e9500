package world_test

import (
	"fmt"
	"math"
	"math/rand"
	"slices"
	"strings"
	"testing"

	"rhizome/api"
	"rhizome/auth"
	"rhizome/md"
	"rhizome/name"
	"rhizome/rdata"
	"rhizome/resolver"
	"rhizome/sets"
	"rhizome/slots"
	"rhizome/wire"
	"rhizome/world"
	"rhizome/zone"
)

func n(text string) string {
	s, e := name.Parse(text)
	if e != api.OK {
		panic(text)
	}
	return s
}

func h(i int) string { return string([]byte{192, 0, 2, byte(i)}) }

func rr(owner string, kind int, data string) api.RR {
	return api.RR{Name: n(owner), Type: kind, Class: api.IN, TTL: 50, Data: data}
}

func ns(owner, server string) api.RR { return rr(owner, api.NS, n(server)) }

func a(owner string, i int) api.RR { return rr(owner, api.A, h(i)) }

func made(t *testing.T, apex string, serial int, l ...api.RR) *zone.Zone {
	d, _ := rdata.PutSoa(rdata.Soa{M: n(apex), R: n(apex), Serial: serial, Refresh: 100, Retry: 20, Expire: 400, Min: 30})
	l, e := md.Sign(n(apex), append(l, rr(apex, api.SOA, d))...)
	if e != api.OK {
		t.Fatal(e)
	}
	z, e := zone.New(n(apex), l...)
	if e != api.OK {
		t.Fatal(e)
	}
	return z
}

func rootZone(t *testing.T, serial int) *zone.Zone {
	return made(t, ".", serial, ns(".", "a."), a("a.", 1), ns("com.", "ns.com."), a("ns.com.", 2))
}

func comZone(t *testing.T) *zone.Zone {
	return made(t, "com.", 1, ns("com.", "ns.com."), a("ns.com.", 2), a("www.com.", 100))
}

func hints() []sets.Set { return sets.Group(ns(".", "a."), a("a.", 1)) }

// begun is a world with a server of the root (which is the master, too) and one of com.
func begun(t *testing.T) *world.World {
	w, e := world.New(40, 5, 100, hints(), h(1))
	if e != api.OK {
		t.Fatal(e)
	}
	if w.Run(serve(h(1), rootZone(t, 7)), serve(h(2), comZone(t))) != 2 {
		t.Fatal("Serve")
	}
	return w
}

func serve(addr string, l ...*zone.Zone) world.Act {
	return world.Act{Kind: world.Serve, Server: world.Server{Addr: addr, Zones: l}}
}

func query(id int, text string, kind int) world.Act {
	m := wire.Ask(id, api.Question{Name: n(text), Type: kind, Class: api.IN})
	b, _ := wire.Encode(m, api.MaxMsg)
	return world.Act{Kind: world.Query, From: "c", Bytes: b}
}

func kinds(l []resolver.Out) []int {
	var all []int
	for _, o := range l {
		all = append(all, o.Kind)
	}
	return all
}

// told tells who was told what, in short.
func told(t *testing.T, w *world.World) []string {
	var all []string
	for _, x := range w.Told() {
		m, e := wire.Decode(x.Bytes)
		if e != api.OK || !m.QR {
			t.Fatalf("%v", x)
		}
		all = append(all, fmt.Sprint(x.Act, " ", x.Now, " ", x.To, " ", m.ID, " ", m.Rcode, " ", len(m.An)))
	}
	return all
}

func TestKinds(t *testing.T) {
	got := [...]int{world.Query, world.Deliver, world.Lose, world.Raw, world.Tick, world.Serve, world.Fall, world.Start, world.Plan, world.Forge}
	if got != [...]int{1, 2, 3, 4, 5, 6, 7, 8, 9, 10} {
		t.Errorf("%v", got)
	}
}

func TestNew(t *testing.T) { // P24.1
	for i, c := range []struct {
		sectors, seed, most int
		e                   api.Errno
	}{{3, 0, 1, api.OK}, {2048, math.MaxInt, 2000, api.OK}, {2, 0, 1, api.ErrRange}, {2049, -1, 1, api.ErrRange}, {3, -1, 1, api.ErrRange}, {3, 0, 0, api.ErrRange}, {3, 0, 2001, api.ErrRange}} {
		w, e := world.New(c.sectors, c.seed, c.most, nil)
		if e != c.e || (w == nil) != (e != api.OK) {
			t.Errorf("case %d: %d", i, e)
		}
		if w != nil && (w.Now() != 0 || w.Resolver() == nil || w.Disk().Sectors() != c.sectors || len(w.Told()) != 0 || len(w.Out()) != 0) {
			t.Errorf("case %d", i)
		}
	}
	w, _ := world.New(3, 0, 9, nil)
	if !w.Do(query(1, "x.", 1)) || !slices.Equal(told(t, w), []string{"0 0 c 1 2 0"}) {
		t.Errorf("the example: %v", told(t, w))
	}
}

func TestQueryAndDeliver(t *testing.T) { // P24.1, P24.2
	w := begun(t)
	if !w.Do(query(1, "www.com.", 1)) || !slices.Equal(kinds(w.Out()), []int{resolver.Ask}) || w.Out()[0].To != h(1) {
		t.Fatalf("%v", w.Out())
	}
	for _, k := range []int{1, -1, math.MaxInt, math.MinInt} {
		if w.Do(world.Act{Kind: world.Deliver, K: k}) || w.Do(world.Act{Kind: world.Lose, K: k}) || w.Do(world.Act{Kind: world.Raw, K: k}) || len(w.Out()) != 1 {
			t.Errorf("%d", k)
		}
	}
	if !w.Do(world.Act{Kind: world.Deliver}) || len(w.Out()) != 1 || w.Out()[0].To != h(2) {
		t.Fatalf("%v", w.Out())
	}
	if !w.Do(world.Act{Kind: world.Deliver, Flag: true}) || !slices.Equal(kinds(w.Out()), []int{resolver.AskTCP}) {
		t.Fatalf("cut off: %v", w.Out())
	}
	if !w.Do(world.Act{Kind: world.Deliver, Flag: true}) || len(w.Out()) != 0 || !slices.Equal(told(t, w), []string{"17 0 c 1 0 1"}) {
		t.Fatalf("%v", told(t, w))
	}
	// TCP of a client; one of which no server is; one that is lost.
	tcp := query(2, "none.com.", 1)
	tcp.Flag, tcp.From = true, "d"
	if w.Do(tcp); !w.Do(world.Act{Kind: world.Lose}) || w.Do(world.Act{Kind: world.Lose}) || len(w.Out()) != 0 || w.Resolver().Open() != 1 {
		t.Error("Lose")
	}
	w.Do(world.Act{Kind: world.Tick, N: 3})
	if l := told(t, w); l[1] != "21 3 d 2 2 0" || !slices.Equal(kinds(w.Out()), []int{resolver.AskMaster}) {
		t.Errorf("%v", l)
	}
	x := begun(t)
	x.Do(world.Act{Kind: world.Serve, Server: world.Server{Addr: h(1)}})
	x.Do(query(3, "x.", 1))
	if !x.Do(world.Act{Kind: world.Deliver}) || !slices.Equal(told(t, x), []string{"4 0 c 3 2 0"}) {
		t.Errorf("a server without zones: %v", told(t, x))
	}
	y, _ := world.New(40, 5, 100, hints())
	y.Do(query(3, "x.", 1))
	if !y.Do(world.Act{Kind: world.Deliver}) || len(y.Out()) != 0 || len(y.Told()) != 0 || y.Resolver().Open() != 1 {
		t.Errorf("no server: %v", y.Told())
	}
	for _, k := range []int{0, 11, -1, math.MaxInt} {
		if y.Do(world.Act{Kind: k}) {
			t.Errorf("kind %d", k)
		}
	}
}

func TestTick(t *testing.T) { // P24.1
	w := begun(t)
	for _, k := range []int{-1, 10001, math.MaxInt, math.MinInt} {
		if w.Do(world.Act{Kind: world.Tick, N: k}) || w.Now() != 0 || len(w.Out()) != 0 {
			t.Errorf("%d", k)
		}
	}
	if !w.Do(world.Act{Kind: world.Tick, N: 10000}) || w.Now() != 10000 || !w.Do(world.Act{Kind: world.Tick}) || w.Now() != 10000 || len(w.Out()) != 1 {
		t.Errorf("%d", w.Now())
	}
	w.Do(world.Act{Kind: world.Fall})
	w.Do(world.Act{Kind: world.Start, Flag: true, N: api.MaxTime - 5})
	if w.Do(world.Act{Kind: world.Tick, N: 6}) || !w.Do(world.Act{Kind: world.Tick, N: 5}) || w.Now() != api.MaxTime {
		t.Errorf("%d", w.Now())
	}
}

func TestMaster(t *testing.T) { // P24.1
	for _, each := range []int{-5, 0, 1, 3, 40, 100, math.MaxInt, math.MinInt} {
		w := begun(t)
		if w.Run(world.Act{Kind: world.Tick, N: 1}, world.Act{Kind: world.Deliver, Flag: true}) != 2 || !slices.Equal(kinds(w.Out()), []int{resolver.PullMaster}) {
			t.Fatalf("%v", w.Out())
		}
		if !w.Do(world.Act{Kind: world.Deliver, N: each}) || len(w.Out()) != 0 {
			t.Errorf("%v", w.Out())
		}
		if z, ok := w.Resolver().Held(); !ok || z.Soa().Serial != 7 {
			t.Errorf("%d: not held", each)
		}
		if w.Do(query(1, "none.", 1)); !slices.Equal(told(t, w), []string{"5 1 c 1 3 0"}) {
			t.Errorf("%v", told(t, w))
		}
	}
	// A server that has another zone, or one that does not fit a message: the stream ends.
	var big []api.RR
	for range 20 {
		big = append(big, rr("a.", 300+len(big), strings.Repeat("d", 1000)))
	}
	long := made(t, ".", 7, append(big, ns(".", "a."))...)
	for i, l := range [][]*zone.Zone{nil, {nil, comZone(t)}, {long}} {
		w := begun(t)
		w.Run(world.Act{Kind: world.Tick, N: 1}, world.Act{Kind: world.Deliver}, serve(h(1), l...))
		if !w.Do(world.Act{Kind: world.Deliver, N: 50}) || w.Resolver().Phase != 0 || w.Resolver().Next != 6 {
			t.Errorf("case %d: %v", i, w.Resolver().Plan)
		}
	}
	w := begun(t)
	w.Run(world.Act{Kind: world.Tick, N: 1}, serve(h(1), nil, comZone(t), rootZone(t, 8), rootZone(t, 9)), world.Act{Kind: world.Deliver}, world.Act{Kind: world.Deliver, N: 2})
	if z, ok := w.Resolver().Held(); !ok || z.Soa().Serial != 8 {
		t.Error("the first zone of that apex")
	}
}

func TestRawAndForge(t *testing.T) { // P24.1
	w := begun(t)
	w.Do(query(1, "x.", 1))
	o := w.Out()[0]
	m, _ := wire.Decode(o.Bytes)
	m.QR, m.AA, m.Rcode = true, true, 3
	b, _ := wire.Encode(m, 512)
	if !w.Do(world.Act{Kind: world.Raw, Bytes: b[:20]}) || len(w.Told()) != 0 || !w.Do(world.Act{Kind: world.Raw, Bytes: b}) || len(w.Out()) != 1 || !slices.Equal(told(t, w), []string{"4 0 c 1 3 0"}) {
		t.Errorf("%v", told(t, w))
	}
	if !w.Do(world.Act{Kind: world.Deliver}) || len(w.Told()) != 1 {
		t.Error("one that is answered already")
	}
	w.Do(query(2, "y.", 1))
	o = w.Out()[0]
	m, _ = wire.Decode(o.Bytes)
	m.QR, m.AA, m.Rcode = true, true, 3
	b, _ = wire.Encode(m, 512)
	for _, x := range []world.Act{{N: -1, K: o.Port, From: o.To}, {N: m.ID, K: -1, From: o.To}, {N: math.MinInt}} {
		x.Kind, x.Bytes = world.Forge, b
		if w.Do(x) || len(w.Told()) != 1 {
			t.Errorf("%v", x)
		}
	}
	if !w.Do(world.Act{Kind: world.Forge}) || len(w.Told()) != 1 {
		t.Error("an ID and a port of 0 may be forged")
	}
	for _, x := range []world.Act{{N: m.ID + 1, K: o.Port, From: o.To}, {N: m.ID, K: o.Port + 1, From: o.To}, {N: m.ID, K: o.Port, From: "z"}, {N: m.ID, K: o.Port, From: o.To, Flag: true}, {N: math.MaxInt, K: math.MaxInt}} {
		x.Kind, x.Bytes = world.Forge, b
		if !w.Do(x) || len(w.Told()) != 1 {
			t.Errorf("%v", x)
		}
	}
	if !w.Do(world.Act{Kind: world.Forge, N: m.ID, K: o.Port, From: o.To, Bytes: b}) || len(w.Told()) != 2 {
		t.Error("Forge of what fits")
	}
	// A master's answer, and its stream, by hand.
	w = begun(t)
	w.Do(world.Act{Kind: world.Tick, N: 1})
	m, _ = wire.Decode(w.Out()[0].Bytes)
	b, _ = wire.Encode(auth.Message(m.ID, m.Q[0], auth.Answer(rootZone(t, 7), m.Q[0])), 512)
	if !w.Do(world.Act{Kind: world.Raw, Bytes: b}) || !slices.Equal(kinds(w.Out()), []int{resolver.AskMaster, resolver.PullMaster}) {
		t.Errorf("%v", w.Out())
	}
	if !w.Do(world.Act{Kind: world.Raw, K: 1, Bytes: []byte{0, 0}}) || w.Resolver().Phase != 0 || len(w.Out()) != 2 {
		t.Errorf("%v", w.Resolver().Plan)
	}
}

func TestServe(t *testing.T) { // P24.1
	w, _ := world.New(40, 5, 100, hints())
	for i := range 20 {
		if !w.Do(serve(h(i + 2))) {
			t.Errorf("%d", i)
		}
	}
	if w.Do(serve(h(1), rootZone(t, 7))) || !w.Do(serve(h(9), rootZone(t, 7))) || w.Do(serve("")) {
		t.Error("more than 20")
	}
	l := []*zone.Zone{rootZone(t, 7)}
	x, _ := world.New(40, 5, 100, hints())
	x.Do(serve(h(1), l...))
	l[0] = nil
	x.Run(query(1, "none.", 1), world.Act{Kind: world.Deliver})
	if !slices.Equal(told(t, x), []string{"2 0 c 1 3 0"}) {
		t.Errorf("a list that was handed in is kept: %v", told(t, x))
	}
	x.Do(world.Act{Kind: world.Fall})
	if !x.Do(serve(h(1), comZone(t))) {
		t.Error("without a resolver")
	}
}

func TestFallAndStart(t *testing.T) { // P24.1, P24.4
	w := begun(t)
	w.Run(world.Act{Kind: world.Tick, N: 1}, world.Act{Kind: world.Deliver}, world.Act{Kind: world.Deliver, N: 2}, query(1, "www.com.", 1))
	if len(w.Out()) != 1 || w.Do(world.Act{Kind: world.Start}) {
		t.Fatalf("%v", w.Out())
	}
	if !w.Do(world.Act{Kind: world.Fall, Bytes: []byte{255}}) || w.Resolver() != nil || w.Disk().Up() || len(w.Out()) != 0 {
		t.Error("Fall")
	}
	for k := range 12 {
		want := k == world.Serve || k == world.Plan
		if k != world.Start && w.Do(world.Act{Kind: k, Server: world.Server{Addr: "s"}}) != want {
			t.Errorf("kind %d without a resolver", k)
		}
	}
	if !w.Do(world.Act{Kind: world.Start}) || w.Resolver() == nil || !w.Disk().Up() || w.Now() != 1 || w.Resolver().Open() != 0 {
		t.Error("Start")
	}
	if z, ok := w.Resolver().Held(); !ok || z.Soa().Serial != 7 || w.Resolver().Plan.Time != 1 {
		t.Error("what was on the disk")
	}
	for i, c := range []struct {
		n    int
		flag bool
		want int
	}{{9, true, 9}, {7, false, 9}, {-1, true, 9}, {api.MaxTime + 1, true, 9}, {api.MaxTime, true, api.MaxTime}, {0, true, 0}} {
		w.Do(world.Act{Kind: world.Fall})
		if !w.Do(world.Act{Kind: world.Start, N: c.n, Flag: c.flag}) || w.Now() != c.want {
			t.Errorf("case %d: %d", i, w.Now())
		}
	}
}

func TestPlannedFalls(t *testing.T) { // P24.1, P24.4
	for at := 1; at <= 4; at++ {
		for _, mask := range []byte{0, 1, 2, 3, 255} {
			w := begun(t)
			w.Run(world.Act{Kind: world.Tick, N: 1}, world.Act{Kind: world.Deliver}, world.Act{Kind: world.Deliver, N: 2}, serve(h(1), rootZone(t, 8)), world.Act{Kind: world.Tick, N: 100}, world.Act{Kind: world.Deliver})
			if !w.Do(world.Act{Kind: world.Plan, N: at, Bytes: []byte{mask}}) || !w.Do(world.Act{Kind: world.Deliver, N: 2}) {
				t.Fatal("Plan")
			}
			if fell := !w.Disk().Up(); fell != (w.Resolver() == nil) || fell && len(w.Out()) != 0 {
				t.Fatalf("at %d: %v", at, w.Resolver())
			}
			fell := w.Resolver() == nil
			if !fell {
				w.Do(world.Act{Kind: world.Fall, Bytes: []byte{mask}})
			}
			w.Do(world.Act{Kind: world.Start})
			z, ok := w.Resolver().Held()
			if !ok || md.Check("\x00", z.Records()...) != api.OK || z.Soa().Serial != 8 && (z.Soa().Serial != 7 || !fell) {
				t.Errorf("at %d, mask %d", at, mask)
			}
			s, e := slots.Open(w.Disk())
			if i, has := s.Image(); e != api.OK || !has || i.Serial != z.Soa().Serial {
				t.Errorf("at %d, mask %d: %d", at, mask, e)
			}
		}
	}
}

func TestMostOut(t *testing.T) { // what is out
	var l []api.RR
	for i := range 30 {
		l = append(l, a("a.", i+1))
	}
	w, _ := world.New(40, 5, 100, sets.Group(append(l, ns(".", "a."))...))
	for i := range api.MaxJobs {
		w.Do(query(i, "x.", 1000+i))
	}
	var all []string
	for range 6 {
		for _, o := range w.Out()[max(len(w.Out())-api.MaxJobs, 0):] {
			all = append(all, string(o.Bytes))
		}
		w.Do(world.Act{Kind: world.Tick, N: 3})
	}
	for _, o := range w.Out()[len(w.Out())-api.MaxJobs:] {
		all = append(all, string(o.Bytes))
	}
	out := w.Out()
	if len(out) != 200 || len(all) != 7*api.MaxJobs {
		t.Fatalf("%d, %d", len(out), len(all))
	}
	for i, o := range out {
		if string(o.Bytes) != all[len(all)-200+i] {
			t.Fatalf("the eldest do not go: %d", i)
		}
	}
}

func TestRun(t *testing.T) { // P24.2
	w := begun(t)
	l := slices.Repeat([]world.Act{{Kind: 99}, {Kind: world.Tick, N: 1}}, 300)
	if n := w.Run(l...); n != 250 || w.Now() != 250 {
		t.Errorf("%d, %d", n, w.Now())
	}
	if w.Run() != 0 {
		t.Error("Run of none")
	}
}

func TestBest(t *testing.T) { // P24.1
	top, com := made(t, ".", 1, ns(".", "a."), ns("com.", "ns.com."), rr("com.", api.DS, "top")), comZone(t)
	other := made(t, "com.", 2, ns("com.", "ns.com."), rr("com.", api.DS, "own"))
	sub := made(t, "x.com.", 1, ns("x.com.", "a."), a("www.x.com.", 5))
	for i, c := range []struct {
		text string
		kind int
		l    []*zone.Zone
		want *zone.Zone
	}{
		{"www.com.", api.A, []*zone.Zone{top, nil, com, sub}, com}, {"www.x.com.", api.A, []*zone.Zone{top, com, sub}, sub}, {"www.x.com.", api.A, []*zone.Zone{sub, com, top}, sub}, {"net.", api.A, []*zone.Zone{com, top}, top}, {"net.", api.A, []*zone.Zone{com, sub}, nil},
		{"com.", api.A, []*zone.Zone{com, other}, com}, {"com.", api.A, []*zone.Zone{top, com}, com}, {"com.", api.NS, []*zone.Zone{com, top}, com}, {"com.", api.A, []*zone.Zone{other, com}, other}, {"com.", api.DS, []*zone.Zone{com, top}, top}, {"com.", api.DS, []*zone.Zone{other, nil}, other}, {"www.com.", api.DS, []*zone.Zone{top, other}, other}, {"x.com.", api.DS, []*zone.Zone{sub, top, com}, com},
		{".", api.DS, []*zone.Zone{top}, top}, {"www.com.", api.A, nil, nil}, {"www.com.", api.A, []*zone.Zone{nil, nil}, nil},
	} {
		q := api.Question{Name: n(c.text), Type: c.kind, Class: 1}
		got, want := auth.Message(1, q, world.Best(q, c.l...)), auth.Message(1, q, auth.Answer(c.want, q))
		if !wire.Same(got, want) {
			t.Errorf("case %d: %v, not %v", i, got, want)
		}
	}
	if r := world.Best(api.Question{Name: "x", Type: 1, Class: 1}, top); r.Kind != auth.Outside || r.Rcode != api.Refused {
		t.Errorf("%v", r)
	}
}

func TestWholeHoldsInEachWorld(t *testing.T) { // P24.4
	rnd := rand.New(rand.NewSource(24))
	for range 40 {
		w := begun(t)
		held := -1
		open, serial, id := map[string]int{}, 7, 0
		for range 200 {
			switch k := rnd.Intn(20); {
			case k < 5:
				id++
				w.Do(query(id, []string{"www.com.", "none.", "x.com.", "."}[rnd.Intn(4)], 1+rnd.Intn(2)))
				open[fmt.Sprint(id)]++
			case k < 12:
				w.Do(world.Act{Kind: world.Deliver, K: rnd.Intn(3), N: rnd.Intn(60), Flag: rnd.Intn(5) == 0})
			case k < 13:
				w.Do(world.Act{Kind: world.Lose, K: rnd.Intn(3)})
			case k < 17:
				w.Do(world.Act{Kind: world.Tick, N: rnd.Intn(60)})
			case k == 17:
				serial++
				w.Do(serve(h(1), rootZone(t, serial)))
			case k == 18:
				w.Do(world.Act{Kind: world.Plan, N: rnd.Intn(6), Bytes: []byte{byte(rnd.Intn(256))}})
			case k == 19 && rnd.Intn(4) == 0:
				w.Do(world.Act{Kind: world.Fall, Bytes: []byte{byte(rnd.Intn(256))}})
			}
			r := w.Resolver()
			if r == nil {
				if w.Do(world.Act{Kind: world.Start}); w.Resolver() == nil {
					t.Fatal("Start")
				}
				r = w.Resolver()
				if z, ok := r.Held(); held >= 0 && (!ok || z.Soa().Serial < held) {
					t.Fatalf("%d is gone", held)
				}
			}
			if z, ok := r.Held(); ok {
				if md.Check("\x00", z.Records()...) != api.OK || z.Soa().Serial < held || z.Soa().Serial > serial {
					t.Fatalf("%d behind %d", z.Soa().Serial, held)
				}
				held = z.Soa().Serial
			}
			if len(r.Engine().Jobs()) > api.MaxJobs || r.Engine().Len() > 100 || len(w.Out()) > 200 {
				t.Fatal("bounds")
			}
		}
		answered := map[int]bool{}
		for _, x := range w.Told() {
			m, _ := wire.Decode(x.Bytes)
			if answered[m.ID] || m.ID > id {
				t.Fatalf("%d twice", m.ID)
			}
			answered[m.ID] = true
		}
	}
}

func TestListsAreNew(t *testing.T) { // P24.3
	l, masters := hints(), []string{h(1)}
	w, _ := world.New(40, 5, 100, l, masters...)
	for i := range l {
		l[i].Data[0] = "!"
	}
	masters[0] = "!"
	w.Run(world.Act{Kind: world.Fall}, world.Act{Kind: world.Start}, query(1, "x.", 1), world.Act{Kind: world.Tick}, query(2, "x.", api.ANY))
	out := w.Out()
	if len(out) != 2 || out[0].To != h(1) || out[1].To != h(1) {
		t.Fatalf("%v", out)
	}
	x := w.Told()
	out[0].Bytes[0]++
	out[1].To = "!"
	x[0].Bytes[0]++
	_ = append(x, world.Told{})
	if o := w.Out(); o[0].Bytes[0] == out[0].Bytes[0] || o[1].To != h(1) || w.Told()[0].Bytes[0] == x[0].Bytes[0] {
		t.Error("what is handed out is its own")
	}
}
