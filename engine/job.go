package engine

import (
	"slices"

	"rhizome/api"
	"rhizome/auth"
	"rhizome/cache"
	"rhizome/name"
	"rhizome/rdata"
	"rhizome/scrub"
	"rhizome/sets"
	"rhizome/wire"
)

// trial is an address that was asked as a server of a cut.
type trial struct{ cut, to string }

// job is a Job with what it came through.
type job struct {
	Job
	chain  []sets.Set
	tried  []trial
	sought []string
	cut    string // that its question was sent for
}

func key(n string, kind int) sets.Key {
	return sets.Key{Name: n, Type: kind, Class: api.IN}
}

// question is what it asks now.
func (j *job) question() api.Question {
	return api.Question{Name: j.Now, Type: j.Type, Class: api.IN}
}

// through goes through an alias.
func (j *job) through(s sets.Set, next string) {
	j.chain = append(j.chain, s)
	if j.Now != next {
		j.tried = nil
	}
	j.Now = next
}

func (e *Engine) find(id int) *job {
	for _, j := range e.jobs {
		if j.ID == id {
			return j
		}
	}
	return nil
}

// open makes a job, for a parent or for nobody.
func (e *Engine) open(q api.Question, parent *job) *job {
	e.last++
	j := &job{Job: Job{Question: q, ID: e.last, Top: e.last, Now: q.Name}}
	if parent != nil {
		j.Parent, j.Top, j.Depth = parent.ID, parent.Top, parent.Depth+1
		parent.Sub = j.ID
	}
	e.jobs = append(e.jobs, j)
	return j
}

// end closes a job, and tells its parent, which goes on.
func (e *Engine) end(j *job, rcode int, an ...sets.Set) *job {
	e.jobs = slices.DeleteFunc(e.jobs, func(o *job) bool { return o == j })
	e.table.Drop(j.ID)
	if j.Parent == 0 {
		e.results = append(e.results, Result{Job: j.ID, Rcode: rcode, Question: j.Question, An: an})
		return nil
	}
	parent := e.find(j.Parent)
	parent.Sub = 0
	return parent
}

func (e *Engine) fail(j *job) *job { return e.end(j, api.ServFail) }

// finish ends a job with what it came through, and what it found.
func (e *Engine) finish(j *job, rcode int, found ...sets.Set) *job {
	return e.end(j, rcode, slices.Concat(j.chain, found)...)
}

// follow lets a job go on, and then whatever job goes on by that: a loop, since these may be many.
func (e *Engine) follow(now int, j *job) {
	for j != nil {
		j = e.goOn(now, j)
	}
}

// goOn takes turns, and tells which job goes on behind them: nil, if it waits or is at its end.
func (e *Engine) goOn(now int, j *job) *job {
	for range mostTurns {
		next, again := e.turn(now, j)
		if !again {
			return next
		}
	}
	return e.fail(j)
}

// turn is one turn of a job; it tells which job goes on, or that this one has another turn.
func (e *Engine) turn(now int, j *job) (next *job, again bool) {
	if next, ended := e.known(now, j); ended {
		return next, false
	}
	if e.aliased(now, j) {
		return e.unlessTooLong(j)
	}
	cut, servers := e.servers(now, j)
	if cut == root && e.root != nil {
		q := j.question()
		o := scrub.Sort(root, q, auth.Message(0, q, auth.Answer(e.root, q)))
		if o.Kind == scrub.Bad {
			return e.fail(j), false
		}
		return e.take(now, j, o)
	}
	if to, ok := e.untried(now, j, cut, servers); ok {
		return e.ask(now, j, cut, to), false
	}
	if server, ok := e.unsought(now, j, cut, servers); ok {
		j.sought = append(j.sought, server)
		return e.open(api.Question{Name: server, Type: api.A, Class: api.IN}, j), false
	}
	return e.fail(j), false
}

// heard tells what the cache has of a key, if it was an answer that said so.
func (e *Engine) heard(now int, k sets.Key) (sets.Set, bool) {
	found, ok := e.Get(now, k)
	if !ok || found.Rank < cache.Plain {
		return sets.Set{}, false
	}
	return found.Set, true
}

// known ends a job whose answer the cache has.
func (e *Engine) known(now int, j *job) (next *job, ended bool) {
	k := key(j.Now, j.Type)
	if s, ok := e.heard(now, k); ok {
		return e.finish(j, api.NoError, s), true
	}
	switch e.Absent(now, k) {
	case 1:
		return e.finish(j, api.NXDomain), true
	case 2:
		return e.finish(j, api.NoError), true
	}
	return nil, false
}

// aliased goes through an alias that the cache has.
func (e *Engine) aliased(now int, j *job) bool {
	if j.Type == api.CNAME {
		return false
	}
	s, ok := e.heard(now, key(j.Now, api.CNAME))
	if ok {
		next, _ := rdata.Target(api.CNAME, s.Data[0])
		j.through(s, next)
	}
	return ok
}

// unlessTooLong goes on, but for a chain that is too long.
func (e *Engine) unlessTooLong(j *job) (next *job, again bool) {
	if len(j.chain) > api.MaxChain {
		return e.fail(j), false
	}
	return nil, true
}

// servers tells the nearest cut, and its servers in order.
func (e *Engine) servers(now int, j *job) (string, []string) {
	found, ok := e.Cut(now, j.Now, j.Type == api.DS)
	if ok && found.Name != root {
		return found.Name, targets(found.Set)
	}
	var l []sets.Set
	for _, s := range e.hints {
		if s.Key == key(root, api.NS) {
			l = append(l, s)
		}
	}
	return root, targets(l...)
}

// targets tells the servers of NS sets, each once, in order.
func targets(l ...sets.Set) []string {
	var all []string
	for _, s := range l {
		for _, d := range s.Data {
			if n, ok := rdata.Target(api.NS, d); ok {
				all = append(all, n)
			}
		}
	}
	slices.SortFunc(all, name.Compare)
	return slices.Compact(all)
}

// addresses tells where a server of a cut is; those of the root's are the hints' alone.
func (e *Engine) addresses(now int, cut, server string) []string {
	k := key(server, api.A)
	if cut != root {
		found, _ := e.Peek(now, k)
		return found.Data
	}
	var l []string
	for _, s := range e.hints {
		if s.Key == k {
			l = append(l, s.Data...)
		}
	}
	return l
}

// untried tells the first address of a cut that the job has not asked.
func (e *Engine) untried(now int, j *job, cut string, servers []string) (string, bool) {
	for _, server := range servers {
		for _, to := range e.addresses(now, cut, server) {
			if !slices.Contains(j.tried, trial{cut, to}) {
				return to, true
			}
		}
	}
	return "", false
}

// ask sends the job's question to a server of a cut; the job waits then, or fails.
func (e *Engine) ask(now int, j *job, cut, to string) *job {
	if e.find(j.Top).Sends >= api.MaxSends || !e.send(now, j, to, false) {
		return e.fail(j)
	}
	j.cut = cut
	j.tried = append(j.tried, trial{cut, to})
	return nil
}

// send lets the job's question go out, which counts for its Top.
func (e *Engine) send(now int, j *job, to string, tcp bool) bool {
	w, bad := e.table.Open(now, j.ID, to, tcp, j.question())
	if bad != api.OK {
		return false
	}
	b, _ := wire.Encode(wire.Ask(w.ID, w.Question), api.MaxMsg)
	e.outs = append(e.outs, Out{To: to, Port: w.Port, TCP: tcp, Bytes: b})
	e.find(j.Top).Sends++
	j.Out = true
	return true
}

// unsought tells the first server whose address the job may look for.
func (e *Engine) unsought(now int, j *job, cut string, servers []string) (string, bool) {
	if cut == root || j.Depth >= api.MaxDepth || len(e.jobs) >= api.MaxJobs {
		return "", false
	}
	for _, server := range servers {
		k := key(server, api.A)
		_, there := e.Peek(now, k)
		if !there && e.Absent(now, k) == 0 && !slices.Contains(j.sought, server) && !e.isAsked(j, server) {
			return server, true
		}
	}
	return "", false
}

// isAsked tells whether the job, or one of its parents, asks for the address of a server itself.
func (e *Engine) isAsked(j *job, server string) bool {
	for ; j != nil; j = e.find(j.Parent) {
		if j.Name == server && j.Type == api.A {
			return true
		}
	}
	return false
}

// take takes what an answer says; it tells which job goes on, or that this one does.
func (e *Engine) take(now int, j *job, o scrub.Out) (next *job, again bool) {
	for _, s := range o.Sets {
		e.Put(now, s.Rank, s.Set)
	}
	switch o.Kind {
	case scrub.Yes:
		return e.finish(j, api.NoError, o.Sets[0].Set), false
	case scrub.Alias:
		j.through(o.Sets[0].Set, o.Next)
		return e.unlessTooLong(j)
	case scrub.NoName:
		e.No(now, cache.Auth, o.TTL, key(j.Now, 0))
		return e.finish(j, api.NXDomain), false
	case scrub.NoData:
		e.No(now, cache.Auth, o.TTL, key(j.Now, j.Type))
		return e.finish(j, api.NoError), false
	}
	return nil, true
}
