package proposer_test

import (
	"testing"

	"rotulet/api"
	"rotulet/layout"
	"rotulet/message"
	"rotulet/proposer"
)

// copies are messages in memory of their own.
func copies(l []api.Message) []api.Message {
	var c []api.Message
	for _, m := range l {
		m.Layout = copyOf(m.Layout)
		c = append(c, m)
	}
	return c
}

// Rule 4: two proposers of one wish, which is changed later; what each hands out stays when both go on, and changes nothing when it is changed.
func TestApart(t *testing.T) {
	wish, found := some(3)[3], some(3)[2]
	given := copyOf(wish)
	p, _ := proposer.New(1, 7, given)
	q, _ := proposer.New(1, 7, given)
	spoil(given)
	p.Start()
	q.Start()
	for _, n := range []int{0, 1} {
		p.Hear(told(api.Prepare, n, 1, api.OK, ballot(0, 0), api.Layout{}))
	}
	m := told(api.Prepare, 0, 1, api.OK, ballot(0, 2), copyOf(found))
	q.Hear(m)
	spoil(m.Layout)
	q.Hear(told(api.Prepare, 2, 1, api.OK, ballot(0, 0), api.Layout{}))
	if !untouched(told(0, 0, 0, 0, ballot(0, 0), copyOf(found)).Layout, found) {
		t.Error("changed")
	}
	ofP, ofQ := p.Out(), q.Out()
	wantP, wantQ := append(three(api.Prepare, 1, api.Layout{}), three(api.Accept, 1, wish)...), append(three(api.Prepare, 1, api.Layout{}), three(api.Accept, 1, found)...)
	for range 6 {
		p.Tick()
	}
	for n := range 2 {
		q.Hear(told(api.Accept, n, 1, api.OK, ballot(0, 0), found))
	}
	decided, _ := q.Decided()
	again, _ := q.Decided()
	if !alike(ofP, wantP) || !alike(ofQ, wantQ) {
		t.Errorf("changed by later calls: %+v, %+v", ofP, ofQ)
	}
	keptP := copies(ofP)
	for _, x := range ofQ {
		spoil(x.Layout)
	}
	_ = append(ofQ, api.Message{ID: 99})
	if !alike(ofP, keptP) || !layout.Same(decided, found) {
		t.Errorf("shared: %+v, %v", ofP, decided)
	}
	spoil(decided)
	if l, over := q.Decided(); !over || !layout.Same(l, found) || !layout.Same(again, found) {
		t.Errorf("Decided: %v, %v, before: %v", l, over, again)
	}
	for _, x := range ofP {
		spoil(x.Layout)
	}
	for i := range ofP {
		ofP[i] = api.Message{}
	}
	_ = append(ofP, api.Message{ID: 99})
	for _, n := range []int{2, 0} {
		p.Hear(told(api.Prepare, n, 2, api.OK, ballot(0, 0), api.Layout{}))
	}
	if l := p.Out(); !alike(l, append(three(api.Prepare, 2, api.Layout{}), three(api.Accept, 2, wish)...)) {
		t.Errorf("Out: %+v", l)
	}
}

// Rule 4: what Out handed out has nothing behind its end that a later question could be written to.
func TestOutApart(t *testing.T) {
	for n := range 5 {
		r := usual(t)
		r.ticks(6 * n)
		l := r.p.Out()
		r.m.out()
		kept := copies(l)
		longer := append(l, api.Message{ID: 98})
		r.ticks(12)
		next := r.p.Out()
		if !alike(l, kept) || longer[len(l)].ID != 98 || len(next) != 6 || next[0].ID != 7 {
			t.Errorf("%d: %+v, %+v", n, longer, next)
		}
	}
}

// Rule 4: an answer of an acceptor, the question and what the acceptor has share nothing.
func TestServeApart(t *testing.T) {
	x, _ := empty(t, 41)
	l := some(5)[3]
	given := copyOf(l)
	if a, ok := proposer.Serve(x, question(api.Accept, 5, ballot(1, 1), given)); !ok || a.Error != api.OK {
		t.Fatalf("%+v, %v", a, ok)
	}
	spoil(given)
	var answers []api.Message
	for _, m := range []api.Message{question(api.Learn, 5, ballot(0, 0), api.Layout{}), question(api.Prepare, 5, ballot(2, 1), api.Layout{}), question(api.Prepare, 5, ballot(2, 1), api.Layout{}), question(api.Learn, 5, ballot(0, 0), api.Layout{})} {
		a, _ := proposer.Serve(x, m)
		answers = append(answers, a)
	}
	for i := range answers {
		for _, a := range answers[i:] {
			if !layout.Same(a.Layout, l) {
				t.Errorf("%d: %+v", i, a)
			}
		}
		spoil(answers[i].Layout)
	}
	a, _ := proposer.Serve(x, question(api.Learn, 5, ballot(0, 0), api.Layout{}))
	proposer.Serve(x, question(api.Accept, 5, ballot(3, 1), small(5, 9)))
	if !message.Same(a, reply(api.Learn, 5, api.OK, ballot(1, 1), ballot(2, 1), l)) {
		t.Errorf("%+v", a)
	}
}
