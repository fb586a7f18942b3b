package message_test

import (
	"math"
	"slices"
	"testing"

	"rotulet/api"
	"rotulet/message"
)

// P10.1: messages are the same if all their fields are, whether they are valid or not.
func TestSame(t *testing.T) {
	l := append(some(), api.Message{}, api.Message{Kind: -3, ID: -1, Streams: []int{99, 98}, Backs: backs(20, 40), Error: math.MinInt})
	for i, a := range l {
		for j, b := range l {
			if got := message.Same(a, lent(b)); got != (i == j) {
				t.Errorf("Same(%s, %s): %v", tell(a), tell(b), got)
			}
		}
	}
}

// P10.1: nil and empty slices are equal, each alone, all together, and in messages that are not valid.
func TestSameNilAndEmpty(t *testing.T) {
	for what, f := range map[string]func(*api.Message){
		"Streams":  func(m *api.Message) { m.Streams = []int{} },
		"Backs":    func(m *api.Message) { m.Backs = []api.Back{} },
		"Data":     func(m *api.Message) { m.Cell.Data = []byte{} },
		"a cell's": func(m *api.Message) { m.Cell.Backs = []api.Back{} },
		"Segments": func(m *api.Message) { m.Layout.Segments = []api.Segment{} },
		"all": func(m *api.Message) {
			m.Streams, m.Backs, m.Cell, m.Layout.Segments = []int{}, []api.Back{}, api.Cell{Data: []byte{}, Backs: []api.Back{}}, []api.Segment{}
		},
	} {
		for _, a := range []api.Message{{}, least(), {Kind: 77, Address: none}} {
			b := a
			f(&b)
			if !message.Same(a, b) || !message.Same(b, a) || !message.Same(a, a) || !message.Same(b, b) {
				t.Errorf("%s: nil and empty are not the same", what)
			}
		}
	}
	a, b := least(), least()
	a.Layout.Segments, b.Layout.Segments = []api.Segment{{}}, []api.Segment{{Chains: [][]int{}}}
	if !message.Same(a, b) {
		t.Error("Chains: nil and empty are not the same")
	}
	a.Layout.Segments, b.Layout.Segments = []api.Segment{{Chains: [][]int{nil}}}, []api.Segment{{Chains: [][]int{{}}}}
	if !message.Same(a, b) {
		t.Error("a chain: nil and empty are not the same")
	}
}

// P10.1: messages that differ in one thing are not the same, whichever comes first.
func TestSameByOneThing(t *testing.T) {
	for what, f := range (change{
		"Kind":                    func(m *api.Message) { m.Kind = api.Read },
		"Of":                      func(m *api.Message) { m.Of = api.Read },
		"From's Role":             func(m *api.Message) { m.From.Role = api.Unit },
		"From's Number":           func(m *api.Message) { m.From.Number++ },
		"To's Role":               func(m *api.Message) { m.To.Role = api.Unit },
		"To's Number":             func(m *api.Message) { m.To.Number++ },
		"From and To":             func(m *api.Message) { m.From, m.To = m.To, m.From },
		"ID":                      func(m *api.Message) { m.ID++ },
		"ID by 2^20":              func(m *api.Message) { m.ID += 1 << 20 },
		"Epoch":                   func(m *api.Message) { m.Epoch++ },
		"Epoch by 2^21":           func(m *api.Message) { m.Epoch += 1 << 21 },
		"Address":                 func(m *api.Message) { m.Address-- },
		"Address by 2^32":         func(m *api.Message) { m.Address += 1 << 32 },
		"Error":                   func(m *api.Message) { m.Error++ },
		"Error by 256":            func(m *api.Message) { m.Error += 256 },
		"no Error":                func(m *api.Message) { m.Error = 0 },
		"Ballot's Round":          func(m *api.Message) { m.Ballot.Round++ },
		"Ballot's Client":         func(m *api.Message) { m.Ballot.Client++ },
		"Promised's Round":        func(m *api.Message) { m.Promised.Round++ },
		"Promised's Client":       func(m *api.Message) { m.Promised.Client-- },
		"ballots":                 func(m *api.Message) { m.Ballot, m.Promised = m.Promised, m.Ballot },
		"the first stream":        func(m *api.Message) { m.Streams[0]++ },
		"the last stream":         func(m *api.Message) { m.Streams[1]++ },
		"a stream more":           func(m *api.Message) { m.Streams = append(m.Streams, 15) },
		"a stream less":           func(m *api.Message) { m.Streams = m.Streams[:1] },
		"no streams":              func(m *api.Message) { m.Streams = nil },
		"streams in other order":  func(m *api.Message) { slices.Reverse(m.Streams) },
		"the first Back's stream": func(m *api.Message) { m.Backs[0].Stream++ },
		"the last Back's stream":  func(m *api.Message) { m.Backs[1].Stream++ },
		"the first Back's Last":   func(m *api.Message) { m.Backs[0].Last[0]++ },
		"None becomes 0":          func(m *api.Message) { m.Backs[0].Last[1]++ },
		"None becomes the mark":   func(m *api.Message) { m.Backs[0].Last[1] = api.MaxAddress },
		"the last Back's Last":    func(m *api.Message) { m.Backs[1].Last[1]++ },
		"a Back more":             func(m *api.Message) { m.Backs = append(m.Backs, back(15, none, none)) },
		"a Back less":             func(m *api.Message) { m.Backs = m.Backs[:1] },
		"no Backs":                func(m *api.Message) { m.Backs = nil },
		"Backs in other order":    func(m *api.Message) { slices.Reverse(m.Backs) },
		"Backs of the cell":       func(m *api.Message) { m.Backs = m.Cell.Backs },
		"the cell's kind":         func(m *api.Message) { m.Cell.Kind++ },
		"the cell's first byte":   func(m *api.Message) { m.Cell.Data[0]++ },
		"the cell's last byte":    func(m *api.Message) { m.Cell.Data[2]++ },
		"a byte less":             func(m *api.Message) { m.Cell.Data = m.Cell.Data[:2] },
		"no bytes":                func(m *api.Message) { m.Cell.Data = nil },
		"the cell's stream":       func(m *api.Message) { m.Cell.Backs[0].Stream++ },
		"the cell's Last":         func(m *api.Message) { m.Cell.Backs[0].Last[1]-- },
		"no Backs of the cell":    func(m *api.Message) { m.Cell.Backs = nil },
		"no cell":                 func(m *api.Message) { m.Cell = api.Cell{} },
		"junk":                    func(m *api.Message) { m.Cell = junk() },
		"the layout's epoch":      func(m *api.Message) { m.Layout.Epoch++ },
		"the layout's sequencer":  func(m *api.Message) { m.Layout.Sequencer++ },
		"a From":                  func(m *api.Message) { m.Layout.Segments[1].From++ },
		"a unit":                  func(m *api.Message) { m.Layout.Segments[1].Chains[0][1]++ },
		"a unit less":             func(m *api.Message) { m.Layout.Segments[0].Chains[0] = []int{1} },
		"a chain less":            func(m *api.Message) { m.Layout.Segments[0].Chains = m.Layout.Segments[0].Chains[:1] },
		"a segment less":          func(m *api.Message) { m.Layout.Segments = m.Layout.Segments[:1] },
		"no segments":             func(m *api.Message) { m.Layout.Segments = nil },
		"no layout":               func(m *api.Message) { m.Layout = api.Layout{} },
		"nothing":                 func(m *api.Message) { *m = api.Message{} },
	}) {
		a, b := given(), given()
		f(&b)
		if message.Same(a, b) || message.Same(b, a) {
			t.Errorf("%s: %s and %s are the same", what, tell(a), tell(b))
		}
		if !message.Same(b, lent(b)) {
			t.Errorf("%s: %s is not the same as its copy", what, tell(b))
		}
	}
}

// P2, rule 4: Same changes no message, nor what is behind the ends of its lists.
func TestSameKeepsMessages(t *testing.T) {
	for _, m := range append(some(), api.Message{}, api.Message{Backs: backs(9, 30)}) {
		x, y := lent(m), lent(m)
		if !message.Same(x, y) || !message.Same(x, y) {
			t.Errorf("%s is not the same as its copy", tell(m))
		}
		kept(t, "Same", x, m)
		kept(t, "Same", y, m)
	}
}
