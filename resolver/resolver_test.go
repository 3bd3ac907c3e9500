package resolver_test

import (
	"fmt"
	"math"
	"math/rand"
	"slices"
	"strings"
	"testing"

	"rhizome/api"
	"rhizome/auth"
	"rhizome/axfr"
	"rhizome/disk"
	"rhizome/front"
	"rhizome/md"
	"rhizome/name"
	"rhizome/rdata"
	"rhizome/resolver"
	"rhizome/sets"
	"rhizome/slots"
	"rhizome/table"
	"rhizome/wire"
	"rhizome/zone"
)

func n(text string) string {
	s, e := name.Parse(text)
	if e != api.OK {
		panic(text)
	}
	return s
}

func h(i int) string { return string([]byte{192, 0, 2, byte(i)}) }

func rr(owner string, kind int, data string) api.RR {
	return api.RR{Name: n(owner), Type: kind, Class: api.IN, TTL: 50, Data: data}
}

func ns(owner, server string) api.RR { return rr(owner, api.NS, n(server)) }

func a(owner string, i int) api.RR { return rr(owner, api.A, h(i)) }

func soa(owner string, serial int) api.RR {
	d, _ := rdata.PutSoa(rdata.Soa{M: n(owner), R: n(owner), Serial: serial, Refresh: 100, Retry: 20, Expire: 400, Min: 30})
	return rr(owner, api.SOA, d)
}

// rootZone is one with a digest; with each serial it says something else of old.
func rootZone(t *testing.T, serial int) *zone.Zone {
	l := []api.RR{soa(".", serial), ns(".", "a."), a("a.", 1), ns("com.", "ns.com."), a("ns.com.", 2), ns("net.", "ns.net."), a("ns.net.", 3), a("old.", serial)}
	l, e := md.Sign("\x00", l...)
	if e != api.OK {
		t.Fatal(e)
	}
	z, e := zone.New("\x00", l...)
	if e != api.OK {
		t.Fatal(e)
	}
	return z
}

func made(t *testing.T, apex string, l ...api.RR) *zone.Zone {
	z, e := zone.New(n(apex), append(l, soa(apex, 1))...)
	if e != api.OK {
		t.Fatal(e)
	}
	return z
}

// world is the servers of zones that fit together.
func world(t *testing.T) map[string]*zone.Zone {
	return map[string]*zone.Zone{
		h(1): rootZone(t, 1),
		h(2): made(t, "com.", ns("com.", "ns.com."), a("ns.com.", 2), a("www.com.", 100), rr("al.com.", api.CNAME, n("www.net."))),
		h(3): made(t, "net.", ns("net.", "ns.net."), a("ns.net.", 3), a("www.net.", 101), rr("al.net.", api.CNAME, n("www.com."))),
	}
}

func hints() []sets.Set { return sets.Group(ns(".", "a."), a("a.", 1)) }

func store(t *testing.T, zones ...*zone.Zone) *slots.Store {
	d, _ := disk.New(40)
	slots.Format(d)
	s, e := slots.Open(d)
	if e != api.OK {
		t.Fatal(e)
	}
	for _, z := range zones {
		if s.Install(z, 0) != api.OK {
			t.Fatal("Install")
		}
	}
	return s
}

func begun(t *testing.T, s *slots.Store, masters ...string) *resolver.Resolver {
	r, e := resolver.New(5, 100, s, hints(), masters...)
	if e != api.OK {
		t.Fatal(e)
	}
	return r
}

func asked(id int, text string, kind int) []byte {
	m := wire.Ask(id, api.Question{Name: n(text), Type: kind, Class: api.IN})
	m.RD = true
	b, _ := wire.Encode(m, api.MaxMsg)
	return b
}

// told tells the answers to clients of what went out, each as from, ID, rcode and how many records.
func told(t *testing.T, l []resolver.Out) []string {
	var all []string
	for _, o := range l {
		if o.Kind != resolver.ToClient {
			continue
		}
		m, e := wire.Decode(o.Bytes)
		if e != api.OK || !m.QR || o.Port != 0 {
			t.Fatalf("%v", o)
		}
		all = append(all, fmt.Sprint(o.To, " ", m.ID, " ", m.Rcode, " ", len(m.An)))
	}
	return all
}

func markOf(t *testing.T, o resolver.Out) (table.Mark, api.Question) {
	m, e := wire.Decode(o.Bytes)
	if e != api.OK || m.QR || len(m.Q) != 1 {
		t.Fatalf("%v", o)
	}
	return table.Mark{ID: m.ID, Port: o.Port, To: o.To, TCP: o.Kind == resolver.AskTCP}, m.Q[0]
}

// serve answers an Ask or AskTCP from the world.
func serve(t *testing.T, r *resolver.Resolver, now int, o resolver.Out, w map[string]*zone.Zone) {
	k, q := markOf(t, o)
	b, e := wire.Encode(auth.Message(k.ID, q, auth.Answer(w[o.To], q)), api.MaxMsg)
	if e != api.OK {
		t.Fatal(e)
	}
	r.Answer(now, k, b)
}

// run serves all that goes out, and tells all of it.
func run(t *testing.T, r *resolver.Resolver, now int, w map[string]*zone.Zone) []resolver.Out {
	var all []resolver.Out
	for l := r.Outs(); len(l) > 0; l = r.Outs() {
		for _, o := range l {
			if o.Kind == resolver.Ask || o.Kind == resolver.AskTCP {
				serve(t, r, now, o, w)
			}
		}
		all = append(all, l...)
	}
	return all
}

func kinds(l []resolver.Out) []int {
	var all []int
	for _, o := range l {
		all = append(all, o.Kind)
	}
	return all
}

func TestKinds(t *testing.T) {
	if got := [...]int{resolver.ToClient, resolver.Ask, resolver.AskTCP, resolver.AskMaster, resolver.PullMaster}; got != [...]int{1, 2, 3, 4, 5} {
		t.Errorf("%v", got)
	}
}

func TestNew(t *testing.T) { // P23.1
	for i, c := range []struct {
		seed, most int
		e          api.Errno
	}{{0, 1, api.OK}, {math.MaxInt, 2000, api.OK}, {-1, 9, api.ErrRange}, {5, 0, api.ErrRange}, {5, 2001, api.ErrRange}} {
		r, e := resolver.New(c.seed, c.most, store(t), nil)
		if e != c.e || (r == nil) != (e != api.OK) || r != nil && (r.Open() != 0 || r.Engine() == nil || len(r.Outs()) != 0) {
			t.Errorf("case %d: %d", i, e)
		}
	}
	r := begun(t, store(t, rootZone(t, 7)), "m")
	if z, ok := r.Held(); !ok || z.Soa().Serial != 7 {
		t.Error("Held")
	}
}

func TestBadTimes(t *testing.T) { // P23.2
	r := begun(t, store(t), "m")
	for _, now := range []int{-1, api.MaxTime + 1, math.MinInt, math.MaxInt} {
		r.Client(now, "c", false, asked(1, "x.", 1))
		r.Answer(now, table.Mark{}, nil)
		r.Master(now, "m", nil)
		r.Pull(now, nil)
		r.Close(now)
		r.Time(now)
	}
	if len(r.Outs()) != 0 || r.Open() != 0 {
		t.Error("something was done")
	}
	r.Time(api.MaxTime)
	l := r.Outs()
	if k, _ := markOf(t, l[0]); len(l) != 1 || k.ID != draws(5, 1)[0] {
		t.Errorf("it was drawn: %v", l)
	}
}

func TestTheLastTime(t *testing.T) { // P23.2
	r := begun(t, store(t), "m")
	r.Time(api.MaxTime)
	r.Client(api.MaxTime, "c", false, asked(1, "x.", api.ANY))
	if l := r.Outs(); !slices.Equal(kinds(l), []int{resolver.AskMaster, resolver.ToClient}) {
		t.Errorf("%v", l)
	}
}

func TestClient(t *testing.T) { // P23.2, P23.3
	r := begun(t, store(t))
	r.Client(0, "c", false, asked(1, "x.", 1)[:11])
	if l := r.Outs(); len(l) != 0 {
		t.Errorf("the example: %v", l)
	}
	r.Client(0, "c", false, asked(1, "x.", 1)[:12])
	r.Client(0, "d", true, asked(2, "x.", api.ANY))
	if l := told(t, r.Outs()); !slices.Equal(l, []string{"c 1 1 0", "d 2 5 0"}) || r.Open() != 0 {
		t.Errorf("%v", l)
	}
	r.Client(0, "c", false, asked(3, "www.com.", 1))
	if l := r.Outs(); !slices.Equal(kinds(l), []int{resolver.Ask}) || l[0].To != h(1) || l[0].Port < 1024 || r.Open() != 1 || len(r.Outs()) != 0 {
		t.Errorf("%v", l)
	}
	for i := range 21 {
		r.Client(0, fmt.Sprint("e", i), i%2 == 0, asked(10+i, "www.com.", 1))
	}
	if l := told(t, r.Outs()); !slices.Equal(l, []string{"e19 29 2 0", "e20 30 2 0"}) || r.Open() != 20 {
		t.Errorf("more than 20: %v", l)
	}
	r.Client(0, "f", false, asked(5, "www.com.", api.TXT))
	all := run(t, r, 0, nil)
	r.Time(3)
	all = append(all, run(t, r, 3, nil)...)
	if l := told(t, all); len(l) != 21 || l[0] != "f 5 2 0" || l[1] != "c 3 2 0" || l[2] != "e0 10 2 0" || l[20] != "e18 28 2 0" || r.Open() != 0 {
		t.Errorf("%v", l)
	}
	for i := range api.MaxJobs + 2 {
		r.Client(9, "g", false, asked(100+i, "www.com.", 1000+i))
	}
	if l := told(t, r.Outs()); !slices.Equal(l, []string{"g 140 2 0", "g 141 2 0"}) || r.Open() != api.MaxJobs {
		t.Errorf("more than MaxJobs: %v", l)
	}
}

func TestAnswersAreTheClients(t *testing.T) { // P23.2
	r := begun(t, store(t))
	w := world(t)
	w[h(2)] = made(t, "com.", ns("com.", "ns.com."), a("ns.com.", 2), rr("big.com.", api.TXT, "\xff"+strings.Repeat("t", 255)), rr("big.com.", api.TXT, "\xfe"+strings.Repeat("t", 254)))
	r.Client(0, "c", false, asked(1, "big.com.", api.TXT))
	r.Client(0, "d", true, asked(2, "big.com.", api.TXT))
	all := run(t, r, 0, w)
	if l := told(t, all); !slices.Equal(l, []string{"c 1 0 0", "d 2 0 2"}) {
		t.Errorf("%v", l)
	}
	b := all[len(all)-1].Bytes
	q := api.Question{Name: n("big.com."), Type: api.TXT, Class: api.IN}
	s, _ := w[h(2)].Get(sets.Key{Name: q.Name, Type: q.Type, Class: 1})
	if string(b) != string(front.Reply(front.Client{Question: q, ID: 2, Size: api.MaxMsg, RD: true}, 0, s)) {
		t.Errorf("%x", b)
	}
}

func TestCopyIsTheRoot(t *testing.T) { // P23.2, P23.5
	r := begun(t, store(t, rootZone(t, 7)))
	r.Client(5, "c", false, asked(1, "none.", 1))
	if l := r.Outs(); !slices.Equal(told(t, l), []string{"c 1 3 0"}) || len(l) != 1 {
		t.Errorf("the copy is held: %v", l)
	}
	r.Client(399, "c", false, asked(2, "none2.", 1))
	if l := r.Outs(); len(l) != 1 || l[0].Kind != resolver.ToClient {
		t.Errorf("%v", l)
	}
	r.Client(400, "c", false, asked(3, "none3.", 1))
	if l := r.Outs(); len(l) != 1 || l[0].Kind != resolver.Ask || l[0].To != h(1) {
		t.Errorf("too old: %v", l)
	}
	// What the zone refers to is asked behind an answer, too: each call lays the copy.
	r.Engine().SetRoot(nil)
	r.Client(10, "c", false, asked(4, "x.com.", 1))
	if l := r.Outs(); len(l) != 1 || l[0].To != h(2) {
		t.Errorf("%v", l)
	}
}

// draws are those of a resolver with a seed.
func draws(seed, count int) []int {
	var l []int
	x := (seed + 1) % (1 << 32)
	for range count {
		x = (x*69069 + 1) % (1 << 32)
		l = append(l, x/65536)
	}
	return l
}

func TestMasters(t *testing.T) { // P23.2, P23.5
	for _, seed := range []int{5, 1<<32 - 1, 1<<33 + 7} {
		r, e := resolver.New(seed, 100, store(t), hints(), "m", "o")
		if e != api.OK {
			t.Fatal(e)
		}
		d := draws(seed, 9)
		id := func(o resolver.Out, kind int) int {
			k, q := markOf(t, resolver.Out{Bytes: o.Bytes[2*(kind-resolver.AskMaster):]})
			if o.Kind != kind || o.To != "m" || o.Port != 0 || q.Name != "\x00" {
				t.Fatalf("%v", o)
			}
			return k.ID
		}
		r.Time(0)
		l := r.Outs()
		if len(l) != 1 || id(l[0], resolver.AskMaster) != d[0] {
			t.Fatalf("seed %d: %v", seed, l)
		}
		r.Time(1)
		r.Time(-1)
		r.Client(1, "c", false, nil)
		q := api.Question{Name: "\x00", Type: api.SOA, Class: 1}
		z := rootZone(t, 9)
		b, _ := wire.Encode(auth.Message(d[0], q, auth.Answer(z, q)), 512)
		r.Master(2, "o", b)
		r.Master(2, "m", b)
		l = r.Outs()
		if len(l) != 1 || id(l[0], resolver.PullMaster) != d[3] {
			t.Fatalf("%v", l)
		}
		s, _ := axfr.Make(d[3], "\x00", 3, z.Records()...)
		r.Pull(3, s[:50])
		r.Client(3, "c", false, asked(1, "none.", 1))
		if l := r.Outs(); len(l) != 1 || l[0].Kind != resolver.Ask {
			t.Errorf("%v", l)
		}
		r.Pull(3, s[50:])
		if h, ok := r.Held(); !ok || h.Soa().Serial != 9 || r.Phase != 0 {
			t.Errorf("%v", r.Plan)
		}
		r.Client(3, "c", false, asked(2, "none2.", 1))
		if l := r.Outs(); !slices.Equal(told(t, l), []string{"c 2 3 0"}) {
			t.Errorf("%v", l)
		}
		r.Time(103)
		r.Close(103)
		if r.Phase == 0 || len(r.Outs()) != 2 {
			t.Errorf("%v", r.Plan)
		}
	}
	r := begun(t, store(t), "m")
	r.Time(0)
	q := api.Question{Name: "\x00", Type: api.SOA, Class: 1}
	b, _ := wire.Encode(auth.Message(draws(5, 1)[0], q, auth.Answer(rootZone(t, 9), q)), 512)
	r.Master(1, "m", b)
	r.Close(2)
	if r.Phase != 0 || r.Next != 7 {
		t.Errorf("%v", r.Plan)
	}
}

func TestOrder(t *testing.T) { // P23.2: Sends, Outs, Results
	r, e := resolver.New(5, 100, store(t), sets.Group(ns(".", "a."), a("a.", 1), a("a.", 2)), "m")
	if e != api.OK {
		t.Fatal(e)
	}
	r.Client(0, "c", false, asked(1, "x.", 1))
	r.Time(3)
	r.Client(3, "d", false, asked(2, "y.", 1))
	r.Outs()
	r.Time(50)
	if l := r.Outs(); !slices.Equal(kinds(l), []int{resolver.Ask, resolver.ToClient}) {
		t.Errorf("%v", l)
	}
	r.Client(50, "e", false, asked(3, "z.", 1))
	r.Outs()
	r.Time(60)
	if l := r.Outs(); !slices.Equal(kinds(l), []int{resolver.AskMaster, resolver.Ask, resolver.ToClient}) {
		t.Errorf("%v", l)
	}
}

func TestTCP(t *testing.T) { // P23.2
	r := begun(t, store(t))
	r.Client(0, "c", false, asked(1, "x.", 1))
	k, q := markOf(t, r.Outs()[0])
	m := wire.Ask(k.ID, q)
	m.QR, m.TC = true, true
	b, _ := wire.Encode(m, 512)
	r.Answer(0, k, b)
	l := r.Outs()
	if !slices.Equal(kinds(l), []int{resolver.AskTCP}) || l[0].To != h(1) {
		t.Fatalf("%v", l)
	}
	serve(t, r, 0, l[0], world(t))
	if l := told(t, r.Outs()); !slices.Equal(l, []string{"c 1 3 0"}) {
		t.Errorf("%v", l)
	}
}

// follow tells what the zones say, from the root on.
func follow(w map[string]*zone.Zone, q api.Question) (int, []sets.Set) {
	var an []sets.Set
	at := h(1)
	for {
		r := auth.Answer(w[at], q)
		an = append(an, r.An...)
		switch r.Kind {
		case auth.Refer:
			at = r.Ar[0].Data[0]
		case auth.Alias:
			q.Name, at = r.An[0].Data[0], h(1)
		default:
			return r.Rcode, an
		}
	}
}

func TestTruth(t *testing.T) { // P23.6, P23.8
	w := world(t)
	for _, held := range []bool{false, true} {
		s := store(t)
		if held {
			s = store(t, w[h(1)])
		}
		r := begun(t, s)
		id := 0
		for range 2 {
			for _, text := range []string{".", "com.", "www.com.", "al.com.", "al.net.", "none.com.", "none.", "x.www.net.", "old.", "a."} {
				for _, kind := range []int{api.A, api.NS, api.CNAME, api.SOA, api.DS} {
					id++
					r.Client(0, "c", true, asked(id, text, kind))
					all := run(t, r, 0, w)
					q := api.Question{Name: n(text), Type: kind, Class: 1}
					rcode, an := follow(w, q)
					want := front.Reply(front.Client{Question: q, ID: id, Size: api.MaxMsg, RD: true}, rcode, an...)
					if o := all[len(all)-1]; o.Kind != resolver.ToClient || string(o.Bytes) != string(want) || len(told(t, all)) != 1 {
						t.Errorf("%s %d: %x, not %x", text, kind, o.Bytes, want)
					}
				}
			}
		}
	}
}

func TestEachIsAnsweredOnce(t *testing.T) { // P23.6, P23.7
	rnd := rand.New(rand.NewSource(23))
	w := world(t)
	for range 60 {
		r := begun(t, store(t), "m")
		open := map[int]bool{}
		var out []resolver.Out
		now, id := 0, 0
		take := func() {
			for _, o := range r.Outs() {
				if o.Kind != resolver.ToClient {
					out = append(out, o)
					continue
				}
				m, e := wire.Decode(o.Bytes)
				if e != api.OK || !open[m.ID] {
					t.Fatalf("%v was not asked, or is answered twice", m)
				}
				delete(open, m.ID)
			}
			if r.Open() != len(open) || len(r.Engine().Jobs()) > api.MaxJobs || r.Engine().Len() > 100 {
				t.Fatalf("%d wait, of %d", r.Open(), len(open))
			}
		}
		for range 150 {
			switch k := rnd.Intn(8); {
			case k < 3:
				id++
				open[id] = true
				r.Client(now, "c", rnd.Intn(2) == 0, asked(id, []string{"www.com.", "al.com.", "www.net.", "none.", "x.com."}[rnd.Intn(5)], 1+rnd.Intn(2)))
			case k == 3:
				now += rnd.Intn(4)
				r.Time(now)
			case k == 4 && len(out) > 0:
				b := slices.Clone(out[0].Bytes)
				b[rnd.Intn(len(b))] ^= 1 << rnd.Intn(8)
				r.Answer(now, table.Mark{ID: rnd.Intn(65536), Port: out[0].Port, To: out[0].To}, b)
				r.Master(now, "m", b)
				r.Pull(now, b)
			case len(out) > 0:
				at := rnd.Intn(len(out))
				if o := out[at]; o.Kind == resolver.Ask || o.Kind == resolver.AskTCP {
					serve(t, r, now, o, w)
				}
				out = slices.Delete(out, at, at+1)
			}
			take()
		}
		for range 2 * api.MaxSends {
			now += 3
			r.Time(now)
			take()
		}
		if len(open) != 0 || r.Open() != 0 {
			t.Fatalf("%d are not answered", len(open))
		}
	}
}

func TestListsAreNew(t *testing.T) { // P23.4
	l := hints()
	r, _ := resolver.New(5, 100, store(t), l)
	for i := range l {
		l[i].Data[0] = "!"
	}
	b := asked(1, "x.", 1)
	before := slices.Clone(b)
	r.Client(0, "c", false, b)
	o := r.Outs()
	if len(o) != 1 || o[0].To != h(1) || !slices.Equal(b, before) {
		t.Errorf("%v", o)
	}
}
