package proposer_test

import (
	"rotulet/api"
	"rotulet/layout"
	"rotulet/message"
)

// asked is one time that a proposer asked all servers.
type asked struct {
	kind   api.MessageKind
	round  int
	layout api.Layout // of an Accept
	at     int        // how many ticks there had been
	heard  []api.Message
}

// model is the reference. It has all that was asked and heard, in which everything is looked up anew whenever it is asked for.
type model struct {
	client, id int
	wish       api.Layout
	asks       []asked
	ticks      int
	told       int // how many of asks were handed out
}

// rank tells where a ballot stands among all ballots.
func rank(b api.Ballot) int { return 4*b.Round + b.Client }

// last is what was asked last.
func (m *model) last() *asked {
	if len(m.asks) == 0 {
		return &asked{}
	}
	return &m.asks[len(m.asks)-1]
}

// votes are the first answers without an error of each server.
func (a *asked) votes() []api.Message {
	var l []api.Message
	for _, x := range a.heard {
		seen := false
		for _, y := range l {
			seen = seen || y.From == x.From
		}
		if x.Error == 0 && !seen {
			l = append(l, x)
		}
	}
	return l
}

func (m *model) ballot() api.Ballot {
	if len(m.asks) == 0 {
		return api.Ballot{}
	}
	return api.Ballot{Round: m.last().round, Client: m.client}
}

func (m *model) decided() (api.Layout, bool) {
	if m.last().kind == api.Accept && len(m.last().votes()) == 2 {
		return m.last().layout, true
	}
	return api.Layout{}, false
}

// choice is the layout that two answers ask for: no other one is above it, and none that is as high came ahead of it.
func (m *model) choice(two []api.Message) api.Layout {
	chosen, high := m.wish, 0
	for i := len(two) - 1; i >= 0; i-- {
		if n := rank(two[i].Promised); n > 0 && n >= high && len(two[i].Layout.Segments) > 0 {
			chosen, high = two[i].Layout, n
		}
	}
	return chosen
}

func (m *model) start() api.Errno {
	if len(m.asks) > 0 {
		return api.ErrState
	}
	m.asks = []asked{{kind: api.Prepare, round: 1}}
	return api.OK
}

// fits tells whether a message is a reply to what was asked last.
func (m *model) fits(x api.Message) bool {
	_, over := m.decided()
	switch {
	case len(m.asks) == 0 || over:
		return false
	case x.Kind != api.Reply || !message.Right(x):
		return false
	case x.From.Role != api.Server || x.To.Role != api.Client || x.To.Number != m.client:
		return false
	}
	return x.ID == m.id && x.Epoch == m.wish.Epoch && rank(x.Ballot) == rank(m.ballot()) && x.Of == m.last().kind
}

func (m *model) hear(x api.Message) bool {
	if !m.fits(x) {
		return false
	}
	m.last().heard = append(m.last().heard, x)
	if two := m.last().votes(); m.last().kind == api.Prepare && len(two) == 2 {
		m.asks = append(m.asks, asked{kind: api.Accept, round: m.last().round, layout: m.choice(two), at: m.ticks})
	}
	return true
}

// tick asks anew if six ticks have gone by, with a round that is above all that were asked or refused.
func (m *model) tick() {
	if _, over := m.decided(); len(m.asks) == 0 || over {
		return
	}
	m.ticks++
	if m.ticks-m.last().at < 6 {
		return
	}
	round := 0
	for _, a := range m.asks {
		round = max(round, a.round)
		for _, x := range a.heard {
			if x.Error == api.ErrBallot {
				round = max(round, x.Promised.Round)
			}
		}
	}
	if round < 65535 {
		round++
	}
	m.asks = append(m.asks, asked{kind: api.Prepare, round: round, at: m.ticks})
}

// out are the questions that were not handed out yet.
func (m *model) out() []api.Message {
	var l []api.Message
	for ; m.told < len(m.asks); m.told++ {
		a := m.asks[m.told]
		for n := range 3 {
			l = append(l, api.Message{Kind: a.kind, From: client(m.client), To: server(n), ID: m.id, Epoch: m.wish.Epoch, Ballot: api.Ballot{Round: a.round, Client: m.client}, Layout: a.layout})
		}
	}
	return l
}

// state is a server's, in an epoch.
type state struct {
	promised, accepted api.Ballot
	layout             api.Layout
}

// tell is what a server with enough room answers to a question, and the state that it has then.
func (s state) tell(x api.Message) (api.Message, state) {
	a := api.Message{Kind: api.Reply, Of: x.Kind, From: x.To, To: x.From, ID: x.ID, Epoch: x.Epoch, Address: x.Address}
	if x.Kind == api.Learn {
		a.Ballot, a.Promised, a.Layout = s.accepted, s.promised, s.layout
	} else {
		a.Ballot = x.Ballot
	}
	wrong := x.Epoch == 0 || x.Kind != api.Learn && rank(x.Ballot) == 0 || x.Kind == api.Accept && (!layout.Right(x.Layout) || x.Layout.Epoch != x.Epoch)
	above := rank(x.Ballot) - rank(s.promised)
	switch {
	case wrong:
		a.Error = api.ErrArg
	case x.Kind == api.Prepare && above > 0:
		s.promised = x.Ballot
		a.Promised, a.Layout = s.accepted, s.layout
	case x.Kind == api.Accept && above >= 0:
		s = state{promised: x.Ballot, accepted: x.Ballot, layout: x.Layout}
	case x.Kind == api.Prepare:
		a.Error, a.Promised, a.Layout = api.ErrBallot, s.promised, s.layout
	case x.Kind == api.Accept:
		a.Error, a.Promised = api.ErrBallot, s.promised
	}
	return a, s
}
