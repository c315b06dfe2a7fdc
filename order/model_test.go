package order

import (
	"bytes"
	"encoding/binary"
	"slices"

	"reliquary/api"
	"reliquary/ballot"
)

// letter is a message, read by the chapter's words.
type letter struct {
	kind        byte
	place, view int
	value       []byte
	proof       []byte    // a certificate's bytes, if there is one
	cert        *api.Cert // that one
	vote        api.Vote
}

// model is a node by the chapter's words: it keeps what came in lists, and goes through
// them at each question.
type model struct {
	s        api.Suite
	keys     []api.Key
	me, base int
	secret   api.Num
	told     int

	ordered, decides [][]byte
	waiting          [][]byte
	doubles          []int
	box              []api.Vote

	awake              bool
	view, entered, due int
	lock               *letter // its value and proof
	prevote            *api.Vote
	precommit, timeout *int
	timeouts           []api.Vote
	statuses           []noted
	proposals          []noted
	own                []letter
	known              [][]byte

	now int
	out []api.Out
	met map[string]int // how often what was done that is seldom done
}

// noted is a message that was noted, and from whom.
type noted struct {
	from int
	letter
}

func (m *model) n() int              { return len(m.keys) }
func (m *model) t() int              { return (m.n() - 1) / 3 }
func (m *model) quorum() int         { return m.n() - m.t() }
func (m *model) place() int          { return len(m.ordered) }
func (m *model) leader(p, v int) int { return 1 + (p+v)%m.n() }
func (m *model) length(v int) int    { return m.base * (v + 1) }

// number reads a number.
func number(b []byte, most int) (int, bool) {
	if len(b) != 8 {
		return 0, false
	}
	n := binary.BigEndian.Uint64(b)
	return int(n), n <= uint64(most)
}

// holds tells whether a certificate of a phase and a place holds for a value.
func (m *model) holds(c api.Cert, phase, place int, value []byte) bool {
	if c.Phase != phase || c.Place != place || c.Value != sumOf(value) || len(c.Signs) < m.quorum() {
		return false
	}
	for i, x := range c.Signs {
		if x.From < 1 || x.From > m.n() || i > 0 && x.From <= c.Signs[i-1].From {
			return false
		}
		v := api.Vote{Phase: c.Phase, View: c.View, Place: c.Place, Value: c.Value, From: x.From, Begin: x.Begin, Answer: x.Answer}
		if !ballot.Check(m.keys[x.From-1], v) {
			return false
		}
	}
	return true
}

// read reads a message, if it may be.
func (m *model) read(b []byte) (letter, bool) {
	var x letter
	l, ok := fieldsOf(b)
	if !ok || !bytes.Equal(textOf(l...), b) || len(l) == 0 || len(l[0]) != 1 {
		return x, false
	}
	x.kind = l[0][0]
	switch {
	case x.kind == 1 && len(l) == 2:
		x.value = l[1]
		return x, len(x.value) >= 1 && len(x.value) <= 16384
	case (x.kind == 2 || x.kind == 3) && len(l) == 5:
		var p, v bool
		x.place, p = number(l[1], 1<<30)
		x.view, v = number(l[2], 1<<30)
		x.value, x.proof = l[3], l[4]
		return x, p && v && m.proven(&x, x.view)
	case x.kind == 4 && len(l) == 2:
		v, e := ballot.Read(m.s, l[1])
		x.vote, x.place = v, v.Place
		return x, e == api.OK && v.From >= 1 && v.From <= m.n() && ballot.Check(m.keys[v.From-1], v)
	case x.kind == 5 && len(l) == 3:
		c, e := ballot.CertRead(m.s, l[2])
		x.value, x.proof, x.cert, x.place = l[1], l[2], &c, c.Place
		return x, e == api.OK && len(x.value) <= 16384 && m.holds(c, 2, c.Place, x.value)
	}
	return x, false
}

// proven tells whether a Status' or a Propose's value and proof may be.
func (m *model) proven(x *letter, below int) bool {
	if len(x.value) > 16384 {
		return false
	}
	if len(x.proof) == 0 {
		return x.kind != 2 || len(x.value) == 0
	}
	c, e := ballot.CertRead(m.s, x.proof)
	x.cert = &c
	return e == api.OK && c.View < below && m.holds(c, 1, x.place, x.value)
}

func (m *model) send(to int, b []byte) { m.out = append(m.out, api.Out{To: to, Data: b}) }

func (m *model) toAll(b []byte) {
	for i := 1; i <= m.n(); i++ {
		if i != m.me {
			m.send(i, b)
		}
	}
}

// status tells its own Status.
func (m *model) status() letter {
	x := letter{kind: 2, place: m.place(), view: m.view}
	if m.lock != nil {
		x.value, x.proof, x.cert = m.lock.value, m.lock.proof, m.lock.cert
	}
	return x
}

func (x letter) text() []byte {
	return textOf([]byte{x.kind}, eightOf(x.place), eightOf(x.view), x.value, x.proof)
}

// voting votes.
func (m *model) voting(phase, view int, value api.Digest) {
	v, e := ballot.Sign(m.s, m.secret, api.Vote{Phase: phase, View: view, Place: m.place(), Value: value, From: m.me})
	if e != api.OK {
		panic(e)
	}
	switch phase {
	case api.Prevote:
		m.prevote = &v
	case api.Precommit:
		m.precommit = &view
	case api.Timeout:
		m.timeout = &view
		m.timeouts = append(m.timeouts, v)
	}
	if phase != api.Timeout {
		m.add(v)
	}
	m.toAll(voteText(m.s, v))
}

// add puts a vote into the box.
func (m *model) add(v api.Vote) {
	for _, o := range m.box {
		if o.From == v.From && o.Phase == v.Phase && o.View == v.View && o.Place == v.Place {
			if o.Value != v.Value && !slices.Contains(m.doubles, v.From) {
				m.doubles = append(m.doubles, v.From)
				slices.Sort(m.doubles)
			}
			return
		}
	}
	if len(m.box) < 8192 {
		m.box = append(m.box, v)
	}
}

// proof tells the certificate of the box for a known value, and that value.
func (m *model) proof(phase, view int) (*api.Cert, []byte) {
	for _, value := range m.known {
		c := api.Cert{Phase: phase, View: view, Place: m.place(), Value: sumOf(value)}
		for i := 1; i <= m.n(); i++ {
			for _, v := range m.box {
				if v.From == i && v.Phase == phase && v.View == view && v.Place == m.place() && v.Value == c.Value {
					c.Signs = append(c.Signs, api.Signed{From: i, Begin: v.Begin, Answer: v.Answer})
				}
			}
		}
		if len(c.Signs) >= m.quorum() {
			return &c, value
		}
	}
	return nil, nil
}

// 1.
func (m *model) wake() {
	if !m.awake {
		m.awake = true
		m.enter(0)
	}
}

// 2.
func (m *model) enter(v int) {
	m.view, m.entered, m.due = v, m.now, m.now+m.length(v)
	if l := m.leader(m.place(), v); l == m.me {
		m.statuses = append(m.statuses, noted{m.me, m.status()})
	} else {
		m.send(l, m.status().text())
	}
	m.lead()
	m.takeUp()
	m.look()
}

// highest tells the first one of the highest view.
func highest(l []noted, from int) *noted {
	var best *noted
	for i := range l {
		if (from == 0 || l[i].from == from) && (best == nil || l[i].view > best.view) {
			best = &l[i]
		}
	}
	return best
}

// those tells the Statuses of its view.
func (m *model) those() []letter {
	var l []letter
	for i := 1; i <= m.n(); i++ {
		if x := highest(m.statuses, i); x != nil && x.view == m.view {
			l = append(l, x.letter)
		}
	}
	return l
}

// toLead tells whether it leads and has proposed nothing in its view.
func (m *model) toLead() bool {
	return m.awake && m.leader(m.place(), m.view) == m.me &&
		!slices.ContainsFunc(m.own, func(x letter) bool { return x.view == m.view })
}

// 3.
func (m *model) lead() {
	l := m.those()
	late := m.now >= m.entered+m.length(m.view)/4
	if !m.toLead() || len(l) < m.n() && !(len(l) >= m.quorum() && late) {
		return
	}
	p := letter{kind: 3, place: m.place(), view: m.view}
	for _, x := range l {
		if x.cert != nil && (p.cert == nil || x.cert.View > p.cert.View) {
			p.value, p.proof, p.cert = x.value, x.proof, x.cert
		}
	}
	if p.cert == nil && len(m.waiting) > 0 {
		p.value = m.waiting[0]
	}
	if p.cert != nil {
		m.met["proposed what was locked"]++
	}
	if x := highest(m.proposals, 0); x != nil && x.view > m.view {
		m.met["proposed behind a later Propose"]++
	}
	m.toAll(p.text())
	m.own = append(m.own, p)
	m.takeUp()
}

// 4.
func (m *model) takeUp() {
	var p *letter
	if x := highest(m.proposals, 0); x != nil && x.view == m.view {
		p = &x.letter
	}
	for i := range m.own {
		if m.own[i].view == m.view {
			p = &m.own[i]
		}
	}
	if p != nil {
		if !slices.ContainsFunc(m.known, func(b []byte) bool { return bytes.Equal(b, p.value) }) {
			m.known = append(m.known, p.value)
		}
		same := m.lock != nil && sumOf(m.lock.value) == sumOf(p.value)
		above := m.lock != nil && p.cert != nil && p.cert.View > m.lock.cert.View
		if m.prevote == nil || m.prevote.View < m.view {
			switch {
			case m.lock == nil:
				m.voting(api.Prevote, m.view, sumOf(p.value))
			case same || above:
				m.met["voted with a lock"]++
				if !same {
					m.met["left a lock"]++
				}
				m.voting(api.Prevote, m.view, sumOf(p.value))
			default:
				m.met["bound by a lock"]++
			}
		}
	}
	m.look()
}

// 5.
func (m *model) look() {
	c, value := m.proof(api.Prevote, m.view)
	if c != nil && (m.precommit == nil || *m.precommit < m.view) {
		m.lock = &letter{value: value, proof: certText(m.s, *c), cert: c}
		m.voting(api.Precommit, m.view, c.Value)
	}
	m.closeAt(m.view)
}

// closeAt decides by a view's Precommits.
func (m *model) closeAt(view int) {
	if c, value := m.proof(api.Precommit, view); c != nil {
		if view != m.view {
			m.met["decided by another view"]++
		}
		m.decide(value, certText(m.s, *c))
	}
}

// 6.
func (m *model) decide(value, proof []byte) {
	b := decideText(value, proof)
	m.ordered, m.decides = append(m.ordered, value), append(m.decides, b)
	m.toAll(b)
	for i, w := range m.waiting {
		if bytes.Equal(w, value) {
			m.waiting = slices.Delete(m.waiting, i, i+1)
			break
		}
	}
	m.begin()
	m.box = slices.DeleteFunc(m.box, func(v api.Vote) bool { return v.Place < m.place() })
	if len(m.waiting) > 0 {
		m.wake()
	}
}

// begin makes all that belongs to a place what it is at first.
func (m *model) begin() {
	m.awake, m.view, m.entered, m.due = false, 0, 0, 0
	m.lock, m.prevote, m.precommit, m.timeout = nil, nil, nil, nil
	m.timeouts, m.statuses, m.proposals, m.own, m.known = nil, nil, nil, nil, nil
}

// common tells the highest view of which or above so many nodes have a Timeout.
func (m *model) common(count int) (int, bool) {
	best, found := 0, false
	for _, w := range m.timeouts {
		var who []int
		for _, v := range m.timeouts {
			if v.View >= w.View && !slices.Contains(who, v.From) {
				who = append(who, v.From)
			}
		}
		if len(who) >= count && w.View >= m.view && (!found || w.View > best) {
			best, found = w.View, true
		}
	}
	return best, found
}

// 7.
func (m *model) count() {
	if w, ok := m.common(m.t() + 1); ok && (m.timeout == nil || *m.timeout < w) {
		m.met["joined a Timeout"]++
		m.voting(api.Timeout, w, api.Digest{})
	}
	if u, ok := m.common(m.quorum()); ok && u < 1<<30 {
		m.enter(u + 1)
	}
}

// moment tells whether it may be now.
func (m *model) moment(now int) bool { return now >= m.told && now <= 1<<40 }

// take is Take.
func (m *model) take(from int, b []byte, now int) ([]api.Out, api.Errno) {
	if !m.moment(now) || from < 1 || from > m.n() || from == m.me {
		return nil, api.ErrArg
	}
	m.told, m.now, m.out = now, now, nil
	if x, ok := m.read(b); ok {
		m.doing(from, x, b)
	}
	return m.out, api.OK
}

// doing is what a message does.
func (m *model) doing(from int, x letter, b []byte) {
	switch {
	case x.kind == 1:
		if !slices.ContainsFunc(m.waiting, func(w []byte) bool { return bytes.Equal(w, x.value) }) && len(m.waiting) < 256 {
			m.waiting = append(m.waiting, x.value)
			m.wake()
		}
		return
	case x.place < m.place():
		if x.kind != 5 {
			m.send(from, m.decides[x.place])
		}
		return
	case x.place > m.place():
		m.send(from, m.status().text())
		return
	case x.kind == 5:
		m.decide(x.value, x.proof)
		return
	}
	m.wake()
	switch x.kind {
	case 2:
		if old := highest(m.statuses, from); x.view >= m.view && (old == nil || x.view > old.view) {
			m.statuses = append(m.statuses, noted{from, x})
		}
		m.lead()
	case 3:
		if old := highest(m.proposals, 0); from == m.leader(x.place, x.view) && x.view >= m.view && (old == nil || x.view > old.view) {
			m.proposals = append(m.proposals, noted{from, x})
		}
		m.takeUp()
	case 4:
		if x.vote.Phase == api.Timeout {
			m.timeouts = append(m.timeouts, x.vote)
			m.count()
			return
		}
		m.add(x.vote)
		m.look()
		if x.vote.Phase == api.Precommit && m.place() == x.place {
			m.closeAt(x.vote.View)
		}
	}
}

// submit is Submit.
func (m *model) submit(value []byte, now int) ([]api.Out, api.Errno) {
	switch {
	case !m.moment(now) || len(value) == 0:
		return nil, api.ErrArg
	case len(value) > 16384:
		return nil, api.ErrLong
	case slices.ContainsFunc(m.waiting, func(w []byte) bool { return bytes.Equal(w, value) }):
		return nil, api.ErrThere
	case len(m.waiting) == 256:
		return nil, api.ErrFull
	}
	m.told, m.now, m.out = now, now, nil
	m.waiting = append(m.waiting, bytes.Clone(value))
	m.toAll(requestText(value))
	m.wake()
	return m.out, api.OK
}

// tick is Tick.
func (m *model) tick(now int) ([]api.Out, api.Errno) {
	if !m.moment(now) {
		return nil, api.ErrArg
	}
	m.told, m.now, m.out = now, now, nil
	place := m.place()
	if !m.awake {
		return nil, api.OK
	}
	m.lead()
	if m.place() != place || now < m.due {
		return m.out, api.OK
	}
	m.due = now + m.length(m.view)
	if len(m.waiting) > 0 {
		m.toAll(requestText(m.waiting[0]))
	}
	if l := m.leader(place, m.view); l != m.me {
		m.send(l, m.status().text())
	}
	w := m.view
	if m.timeout != nil {
		w = max(w, *m.timeout)
	}
	m.voting(api.Timeout, w, api.Digest{})
	m.count()
	return m.out, api.OK
}

// next is Next.
func (m *model) next() (int, bool) {
	if !m.awake {
		return 0, false
	}
	if at := m.entered + m.length(m.view)/4; m.toLead() && len(m.those()) >= m.quorum() && at < m.due {
		return at, true
	}
	return m.due, true
}

// save is Save.
func (m *model) save() []byte {
	prevote, precommit, timeout := -1, -1, -1
	var digest api.Digest
	if m.prevote != nil {
		prevote, digest = m.prevote.View, m.prevote.Value
	}
	if m.precommit != nil {
		precommit = *m.precommit
	}
	if m.timeout != nil {
		timeout = *m.timeout
	}
	var value, proof []byte
	if m.lock != nil {
		value, proof = m.lock.value, m.lock.proof
	}
	return savedText(m.place(), m.view, prevote, precommit, timeout, digest, value, proof)
}

// modelOf is New.
func modelOf(s api.Suite, n, me, base int) *model {
	return &model{s: s, keys: keysOf(s, n), me: me, base: base, secret: secretOf(me), met: map[string]int{}}
}

// load is Load, of what a node that goes well saved.
func (m *model) load(saved []byte, decides [][]byte, now int) *model {
	x := &model{s: m.s, keys: m.keys, me: m.me, base: m.base, secret: m.secret, met: m.met, told: now}
	for _, b := range decides {
		d, ok := x.read(b)
		if !ok || d.kind != 5 || d.place != x.place() {
			panic("no Decide")
		}
		x.ordered, x.decides = append(x.ordered, d.value), append(x.decides, b)
	}
	l, _ := fieldsOf(saved)
	if len(l) == 0 {
		return x
	}
	view := func(i int) *int {
		v := int(binary.BigEndian.Uint64(l[i])) - 1
		if v < 0 {
			return nil
		}
		return &v
	}
	if place, _ := number(l[0], 1<<30); place != x.place() {
		return x
	}
	x.view, _ = number(l[1], 1<<30)
	if v := view(2); v != nil {
		x.prevote = &api.Vote{View: *v, Value: api.Digest(l[5])}
	}
	x.precommit, x.timeout = view(3), view(4)
	if len(l[7]) > 0 {
		c, _ := ballot.CertRead(x.s, l[7])
		x.lock = &letter{value: l[6], proof: l[7], cert: &c}
	}
	if x.view == 0 && x.prevote == nil && x.precommit == nil && x.timeout == nil && x.lock == nil {
		return x
	}
	x.awake, x.entered, x.due = true, now, now
	if x.timeout != nil {
		x.timeouts = append(x.timeouts, api.Vote{From: x.me, View: *x.timeout})
	}
	if x.leader(x.place(), x.view) == x.me {
		x.statuses = append(x.statuses, noted{x.me, x.status()})
	}
	return x
}
