package message_test

import (
	"math"
	"slices"
	"testing"

	"rotulet/api"
	"rotulet/message"
)

// change is a way in which a message becomes another one.
type change map[string]func(*api.Message)

// each makes the changes to all messages of a list, and holds what Right says against what is wanted, and all else against the reference.
func (c change) each(t *testing.T, want bool, list ...api.Message) {
	t.Helper()
	for what, f := range c {
		for _, m := range list {
			f(&m)
			if got := message.Right(m); got != want {
				t.Errorf("%s: Right(%s): %v", what, tell(m), got)
			}
			holds(t, what, m)
		}
	}
}

// P10.1: a message of each Kind, and an answer to each.
func TestEachKind(t *testing.T) {
	for kind := api.Write; kind <= api.Learn; kind++ {
		m := least()
		m.Kind = kind
		holds(t, "a kind", m)
		if !message.Right(m) {
			t.Errorf("kind %d: Right: false", kind)
		}
		m.Kind, m.Of = api.Reply, kind
		holds(t, "a reply", m)
		if !message.Right(m) {
			t.Errorf("a reply of kind %d: Right: false", kind)
		}
	}
	for _, m := range some() {
		if !message.Right(m) {
			t.Errorf("Right(%s): false", tell(m))
		}
		holds(t, "some", m)
	}
}

// P10.1: edges of numbers that a message may have.
func TestNumbersThatAreRight(t *testing.T) {
	change{
		"kind 1":                       func(m *api.Message) { m.Kind, m.Of = 1, 0 },
		"kind 13":                      func(m *api.Message) { m.Kind, m.Of = 13, 0 },
		"kind 14 of 1":                 func(m *api.Message) { m.Kind, m.Of = 14, 1 },
		"kind 14 of 13":                func(m *api.Message) { m.Kind, m.Of = 14, 13 },
		"unit 0":                       func(m *api.Message) { m.From = unit(0) },
		"unit 31":                      func(m *api.Message) { m.From = unit(31) },
		"to unit 31":                   func(m *api.Message) { m.To = unit(31) },
		"sequencer 0":                  func(m *api.Message) { m.From = place(api.Sequencer, 0) },
		"sequencer 31":                 func(m *api.Message) { m.From = place(api.Sequencer, 31) },
		"to sequencer 31":              func(m *api.Message) { m.To = place(api.Sequencer, 31) },
		"server 0":                     func(m *api.Message) { m.From = place(api.Server, 0) },
		"server 2":                     func(m *api.Message) { m.From = place(api.Server, 2) },
		"to server 2":                  func(m *api.Message) { m.To = place(api.Server, 2) },
		"client 0":                     func(m *api.Message) { m.From = client(0) },
		"client 3":                     func(m *api.Message) { m.From = client(3) },
		"to client 3":                  func(m *api.Message) { m.To = client(3) },
		"from itself to itself":        func(m *api.Message) { m.From, m.To = client(1), client(1) },
		"ID 0":                         func(m *api.Message) { m.ID = 0 },
		"ID 2^20 - 1":                  func(m *api.Message) { m.ID = 1<<20 - 1 },
		"epoch 0":                      func(m *api.Message) { m.Epoch = 0 },
		"MaxEpoch":                     func(m *api.Message) { m.Epoch = api.MaxEpoch },
		"address 0":                    func(m *api.Message) { m.Address = 0 },
		"MaxAddress - 1":               func(m *api.Message) { m.Address = api.MaxAddress - 1 },
		"MaxAddress":                   func(m *api.Message) { m.Address = api.MaxAddress },
		"error 0":                      func(m *api.Message) { m.Error = 0 },
		"error 241":                    func(m *api.Message) { m.Error = api.ErrLine },
		"error 255":                    func(m *api.Message) { m.Error = 255 },
		"round 0":                      func(m *api.Message) { m.Ballot.Round = 0 },
		"round 65535":                  func(m *api.Message) { m.Ballot.Round = 65535 },
		"a ballot's client 0":          func(m *api.Message) { m.Ballot.Client = 0 },
		"a ballot's client 3":          func(m *api.Message) { m.Ballot.Client = 3 },
		"promised, round 65535":        func(m *api.Message) { m.Promised.Round = 65535 },
		"promised, client 3":           func(m *api.Message) { m.Promised.Client = 3 },
		"promised less than the other": func(m *api.Message) { m.Ballot, m.Promised = ballot(9, 3), ballot(8, 0) },
		"promised 0":                   func(m *api.Message) { m.Promised = ballot(0, 0) },
	}.each(t, true, least(), given(), largest())
}

// P10.1, wrong inputs: edges of numbers that no message may have.
func TestNumbersThatAreWrong(t *testing.T) {
	change{
		"kind 0":                   func(m *api.Message) { m.Kind = 0 },
		"kind 0 of 0":              func(m *api.Message) { m.Kind, m.Of = 0, 0 },
		"kind 0 of 1":              func(m *api.Message) { m.Kind, m.Of = 0, 1 },
		"kind 15":                  func(m *api.Message) { m.Kind = 15 },
		"kind 15 of 0":             func(m *api.Message) { m.Kind, m.Of = 15, 0 },
		"kind 15 of 1":             func(m *api.Message) { m.Kind, m.Of = 15, 1 },
		"kind 16 of 0":             func(m *api.Message) { m.Kind, m.Of = 16, 0 },
		"kind -1":                  func(m *api.Message) { m.Kind, m.Of = -1, 0 },
		"kind 2^32 + 1":            func(m *api.Message) { m.Kind, m.Of = 1<<32+1, 0 },
		"kind 1 of 1":              func(m *api.Message) { m.Kind, m.Of = 1, 1 },
		"kind 13 of 1":             func(m *api.Message) { m.Kind, m.Of = 13, 1 },
		"kind 13 of 13":            func(m *api.Message) { m.Kind, m.Of = 13, 13 },
		"kind 1 of 14":             func(m *api.Message) { m.Kind, m.Of = 1, 14 },
		"kind 1 of -1":             func(m *api.Message) { m.Kind, m.Of = 1, -1 },
		"a reply of 0":             func(m *api.Message) { m.Kind, m.Of = 14, 0 },
		"a reply of 14":            func(m *api.Message) { m.Kind, m.Of = 14, 14 },
		"a reply of 15":            func(m *api.Message) { m.Kind, m.Of = 14, 15 },
		"a reply of -1":            func(m *api.Message) { m.Kind, m.Of = 14, -1 },
		"a reply of 17":            func(m *api.Message) { m.Kind, m.Of = 14, 17 },
		"role 0":                   func(m *api.Message) { m.From.Role = 0 },
		"role 5":                   func(m *api.Message) { m.From = place(5, 0) },
		"role -1":                  func(m *api.Message) { m.From = place(-1, 0) },
		"role 9":                   func(m *api.Message) { m.From = place(9, 0) },
		"to role 0":                func(m *api.Message) { m.To = place(0, 0) },
		"to role 5":                func(m *api.Message) { m.To = place(5, 0) },
		"from nowhere":             func(m *api.Message) { m.From = api.Place{} },
		"to nowhere":               func(m *api.Message) { m.To = api.Place{} },
		"unit 32":                  func(m *api.Message) { m.From = unit(32) },
		"unit -1":                  func(m *api.Message) { m.From = unit(-1) },
		"to unit 32":               func(m *api.Message) { m.To = unit(32) },
		"to unit -1":               func(m *api.Message) { m.To = unit(-1) },
		"sequencer 32":             func(m *api.Message) { m.From = place(api.Sequencer, 32) },
		"sequencer -1":             func(m *api.Message) { m.From = place(api.Sequencer, -1) },
		"to sequencer 32":          func(m *api.Message) { m.To = place(api.Sequencer, 32) },
		"server 3":                 func(m *api.Message) { m.From = place(api.Server, 3) },
		"server -1":                func(m *api.Message) { m.From = place(api.Server, -1) },
		"to server 3":              func(m *api.Message) { m.To = place(api.Server, 3) },
		"client 4":                 func(m *api.Message) { m.From = client(4) },
		"client -1":                func(m *api.Message) { m.From = client(-1) },
		"to client 4":              func(m *api.Message) { m.To = client(4) },
		"ID 2^20":                  func(m *api.Message) { m.ID = 1 << 20 },
		"ID -1":                    func(m *api.Message) { m.ID = -1 },
		"the least ID":             func(m *api.Message) { m.ID = math.MinInt },
		"MaxEpoch + 1":             func(m *api.Message) { m.Epoch = api.MaxEpoch + 1 },
		"the greatest epoch":       func(m *api.Message) { m.Epoch = math.MaxUint64 },
		"MaxAddress + 1":           func(m *api.Message) { m.Address = api.MaxAddress + 1 },
		"the address None":         func(m *api.Message) { m.Address = api.None },
		"error 256":                func(m *api.Message) { m.Error = 256 },
		"error -1":                 func(m *api.Message) { m.Error = -1 },
		"the least error":          func(m *api.Message) { m.Error = math.MinInt },
		"round 65536":              func(m *api.Message) { m.Ballot.Round = 65536 },
		"round -1":                 func(m *api.Message) { m.Ballot.Round = -1 },
		"a ballot's client 4":      func(m *api.Message) { m.Ballot.Client = 4 },
		"a ballot's client -1":     func(m *api.Message) { m.Ballot.Client = -1 },
		"promised, round 65536":    func(m *api.Message) { m.Promised.Round = 65536 },
		"promised, round -1":       func(m *api.Message) { m.Promised.Round = -1 },
		"promised, client 4":       func(m *api.Message) { m.Promised.Client = 4 },
		"promised, client -1":      func(m *api.Message) { m.Promised.Client = -1 },
		"nothing":                  func(m *api.Message) { *m = api.Message{} },
		"nothing but empty slices": func(m *api.Message) { *m = api.Message{Streams: []int{}, Backs: []api.Back{}} },
		"all is wrong": func(m *api.Message) {
			*m = api.Message{Kind: -1, Of: -1, ID: -1, Epoch: none, Address: none, Error: -1}
		},
		"a server's number, of none": func(m *api.Message) { m.To.Role, m.To.Number = 6, 1 },
	}.each(t, false, least(), given(), largest())
}

// P10.1: any number in each field that has one, and any two of them for places and kinds.
func TestEveryNumber(t *testing.T) {
	for _, n := range numbers() {
		change{
			"kind":     func(m *api.Message) { m.Kind = api.MessageKind(n) },
			"of":       func(m *api.Message) { m.Of = api.MessageKind(n) },
			"ID":       func(m *api.Message) { m.ID = n },
			"error":    func(m *api.Message) { m.Error = api.Errno(n) },
			"round":    func(m *api.Message) { m.Ballot.Round = n },
			"client":   func(m *api.Message) { m.Ballot.Client = n },
			"promised": func(m *api.Message) { m.Promised.Round = n },
			"to whom":  func(m *api.Message) { m.Promised.Client = n },
			"a stream": func(m *api.Message) { m.Streams = []int{n} },
			"a Back":   func(m *api.Message) { m.Backs = []api.Back{back(n, 5, 4)} },
			"epoch":    func(m *api.Message) { m.Epoch = uint64(n) },
			"address":  func(m *api.Message) { m.Address = uint64(n) },
		}.against(t, least(), given())
		for _, x := range numbers() {
			change{
				"kind and of": func(m *api.Message) { m.Kind, m.Of = api.MessageKind(n), api.MessageKind(x) },
				"from":        func(m *api.Message) { m.From = place(api.Role(n), x) },
				"to":          func(m *api.Message) { m.To = place(api.Role(n), x) },
				"streams":     func(m *api.Message) { m.Streams = []int{n, x} },
				"Backs":       func(m *api.Message) { m.Backs = []api.Back{back(n, 5, 4), back(x, 9, none)} },
			}.against(t, least())
		}
	}
	for _, a := range addresses() {
		change{
			"epoch":   func(m *api.Message) { m.Epoch = a },
			"address": func(m *api.Message) { m.Address = a },
		}.against(t, least(), given(), largest())
	}
}

// against makes the changes to all messages of a list, and holds all against the reference.
func (c change) against(t *testing.T, list ...api.Message) {
	t.Helper()
	for what, f := range c {
		for _, m := range list {
			f(&m)
			holds(t, what, m)
		}
	}
}

// P10.1: lists that a message may have: none, as many as there may be, and what comes first and last.
func TestListsThatAreRight(t *testing.T) {
	change{
		"nil streams":               func(m *api.Message) { m.Streams = nil },
		"no streams":                func(m *api.Message) { m.Streams = []int{} },
		"stream 0":                  func(m *api.Message) { m.Streams = []int{0} },
		"stream 15":                 func(m *api.Message) { m.Streams = []int{15} },
		"both ends":                 func(m *api.Message) { m.Streams = []int{0, 15} },
		"MaxStreams":                func(m *api.Message) { m.Streams = []int{0, 1, 2, 3} },
		"MaxStreams at the end":     func(m *api.Message) { m.Streams = []int{12, 13, 14, 15} },
		"nil Backs":                 func(m *api.Message) { m.Backs = nil },
		"no Backs":                  func(m *api.Message) { m.Backs = []api.Back{} },
		"a Back of 0":               func(m *api.Message) { m.Backs = backs(0, 0) },
		"a Back of 15":              func(m *api.Message) { m.Backs = backs(15, 15) },
		"four Backs":                func(m *api.Message) { m.Backs = backs(0, 3) },
		"five Backs":                func(m *api.Message) { m.Backs = backs(0, 4) },
		"15 Backs":                  func(m *api.Message) { m.Backs = backs(1, 15) },
		"16 Backs":                  func(m *api.Message) { m.Backs = backs(0, 15) },
		"None only":                 func(m *api.Message) { m.Backs = []api.Back{back(3, none, none)} },
		"None behind":               func(m *api.Message) { m.Backs = []api.Back{back(3, 0, none)} },
		"1 and 0":                   func(m *api.Message) { m.Backs = []api.Back{back(3, 1, 0)} },
		"the greatest and 0":        func(m *api.Message) { m.Backs = []api.Back{back(3, api.MaxAddress-1, 0)} },
		"the greatest and None":     func(m *api.Message) { m.Backs = []api.Back{back(3, api.MaxAddress-1, none)} },
		"addresses rise by streams": func(m *api.Message) { m.Backs = []api.Back{back(3, 2, 1), back(4, none, none), back(7, 9, 8)} },
		"an empty cell":             func(m *api.Message) { m.Cell = api.Cell{} },
		"an empty cell's slices":    func(m *api.Message) { m.Cell = api.Cell{Data: []byte{}, Backs: []api.Back{}} },
		"junk":                      func(m *api.Message) { m.Cell = junk() },
		"junk, empty slices":        func(m *api.Message) { m.Cell = api.Cell{Kind: api.Junk, Data: []byte{}, Backs: []api.Back{}} },
		"data without bytes":        func(m *api.Message) { m.Cell = data("") },
		"data":                      func(m *api.Message) { m.Cell = data("x", back(2, 7, 3)) },
		"the largest cell":          func(m *api.Message) { m.Cell = largestCell() },
		"an empty layout":           func(m *api.Message) { m.Layout = api.Layout{} },
		"an empty layout's slice":   func(m *api.Message) { m.Layout = api.Layout{Segments: []api.Segment{}} },
		"a small layout":            func(m *api.Message) { m.Layout = smallLayout() },
		"a layout":                  func(m *api.Message) { m.Layout = someLayout() },
		"the largest layout":        func(m *api.Message) { m.Layout = largestLayout() },
	}.each(t, true, least(), given(), largest())
}

// P10.1, wrong inputs: lists that no message may have.
func TestListsThatAreWrong(t *testing.T) {
	many := slices.Repeat([]api.Back{back(15, 5, 4)}, 1000)
	change{
		"MaxStreams + 1":                  func(m *api.Message) { m.Streams = []int{0, 1, 2, 3, 4} },
		"MaxStreams + 1, later":           func(m *api.Message) { m.Streams = []int{3, 5, 8, 9, 15} },
		"eight streams":                   func(m *api.Message) { m.Streams = []int{0, 1, 2, 3, 4, 5, 6, 7} },
		"16 streams":                      func(m *api.Message) { m.Streams = []int{0, 1, 2, 3, 4, 5, 6, 7, 8, 9, 10, 11, 12, 13, 14, 15} },
		"stream 16":                       func(m *api.Message) { m.Streams = []int{16} },
		"stream 16 behind":                func(m *api.Message) { m.Streams = []int{3, 15, 16} },
		"stream -1":                       func(m *api.Message) { m.Streams = []int{-1} },
		"stream -1 ahead":                 func(m *api.Message) { m.Streams = []int{-1, 3} },
		"streams that are equal":          func(m *api.Message) { m.Streams = []int{3, 3} },
		"streams that are equal, later":   func(m *api.Message) { m.Streams = []int{2, 3, 3} },
		"streams 0 that are equal":        func(m *api.Message) { m.Streams = []int{0, 0} },
		"streams that decrease":           func(m *api.Message) { m.Streams = []int{4, 3} },
		"streams that decrease, later":    func(m *api.Message) { m.Streams = []int{1, 4, 3} },
		"streams that decrease, at last":  func(m *api.Message) { m.Streams = []int{1, 5, 7, 6} },
		"the greatest stream, and then 0": func(m *api.Message) { m.Streams = []int{math.MaxInt, 0} },
		"17 Backs":                        func(m *api.Message) { m.Backs = append(backs(0, 15), back(15, 5, 4)) },
		"17 Backs, stream 16":             func(m *api.Message) { m.Backs = backs(0, 16) },
		"17 Backs, 0 twice":               func(m *api.Message) { m.Backs = append(backs(0, 0), backs(0, 15)...) },
		"32 Backs":                        func(m *api.Message) { m.Backs = append(backs(0, 15), backs(0, 15)...) },
		"a thousand Backs":                func(m *api.Message) { m.Backs = many },
		"a Back of 16":                    func(m *api.Message) { m.Backs = backs(16, 16) },
		"a Back of 16 behind":             func(m *api.Message) { m.Backs = backs(12, 16) },
		"a Back of -1":                    func(m *api.Message) { m.Backs = backs(-1, -1) },
		"a Back of -1 ahead":              func(m *api.Message) { m.Backs = []api.Back{back(-1, none, none), back(2, none, none)} },
		"Backs that are equal":            func(m *api.Message) { m.Backs = append(backs(3, 3), backs(3, 3)...) },
		"Backs that are equal, later":     func(m *api.Message) { m.Backs = append(backs(1, 9), backs(9, 15)...) },
		"Backs that decrease":             func(m *api.Message) { m.Backs = append(backs(4, 4), backs(3, 3)...) },
		"Backs that decrease, later":      func(m *api.Message) { m.Backs = append(backs(0, 6), backs(2, 15)...) },
		"a Last of MaxAddress":            func(m *api.Message) { m.Backs = []api.Back{back(3, api.MaxAddress, 4)} },
		"a Last of MaxAddress alone":      func(m *api.Message) { m.Backs = []api.Back{back(3, api.MaxAddress, none)} },
		"a Last of MaxAddress behind":     func(m *api.Message) { m.Backs = []api.Back{back(3, none, api.MaxAddress)} },
		"a Last of MaxAddress + 1":        func(m *api.Message) { m.Backs = []api.Back{back(3, api.MaxAddress+1, api.MaxAddress)} },
		"a Last of None - 1":              func(m *api.Message) { m.Backs = []api.Back{back(3, none-1, 4)} },
		"a Last that is equal":            func(m *api.Message) { m.Backs = []api.Back{back(3, 5, 5)} },
		"a Last of zeros":                 func(m *api.Message) { m.Backs = []api.Back{back(3, 0, 0)} },
		"a Last that increases":           func(m *api.Message) { m.Backs = []api.Back{back(3, 4, 5)} },
		"an address behind a None":        func(m *api.Message) { m.Backs = []api.Back{back(3, none, 5)} },
		"0 behind a None":                 func(m *api.Message) { m.Backs = []api.Back{back(3, none, 0)} },
		"the last Back of 16":             func(m *api.Message) { m.Backs = append(backs(0, 14), back(15, 4, 5)) },
		"the fifth Back of 16":            func(m *api.Message) { m.Backs = append(append(backs(0, 3), back(4, none, 5)), backs(5, 15)...) },
		"an empty Back":                   func(m *api.Message) { m.Backs = []api.Back{{}} },
	}.each(t, false, least(), given(), largest())
}

// P10.1, wrong inputs: a cell or a layout that is neither valid nor empty.
func TestContentThatIsWrong(t *testing.T) {
	change{
		"a cell of kind 0 with data":    func(m *api.Message) { m.Cell = api.Cell{Data: []byte{0}} },
		"a cell of kind 0 with Backs":   func(m *api.Message) { m.Cell = api.Cell{Backs: backs(3, 3)} },
		"a cell of kind 3":              func(m *api.Message) { m.Cell = api.Cell{Kind: 3} },
		"a cell of kind -1":             func(m *api.Message) { m.Cell = api.Cell{Kind: -1} },
		"junk with data":                func(m *api.Message) { m.Cell = api.Cell{Kind: api.Junk, Data: []byte("x")} },
		"junk with Backs":               func(m *api.Message) { m.Cell = api.Cell{Kind: api.Junk, Backs: backs(3, 3)} },
		"too much data":                 func(m *api.Message) { m.Cell = data(string(make([]byte, 101))) },
		"very much data":                func(m *api.Message) { m.Cell = data(string(make([]byte, 1<<16))) },
		"five Backs of a cell":          func(m *api.Message) { m.Cell = data("", backs(0, 4)...) },
		"a cell's streams are equal":    func(m *api.Message) { m.Cell = data("", back(3, 5, 4), back(3, 5, 4)) },
		"a cell's streams decrease":     func(m *api.Message) { m.Cell = data("", back(4, 5, 4), back(3, 5, 4)) },
		"a cell's stream is 16":         func(m *api.Message) { m.Cell = data("", back(16, 5, 4)) },
		"a cell's Last increases":       func(m *api.Message) { m.Cell = data("", back(3, 4, 5)) },
		"a cell's Last is MaxAddress":   func(m *api.Message) { m.Cell = data("", back(3, api.MaxAddress, 5)) },
		"a layout of an epoch alone":    func(m *api.Message) { m.Layout = api.Layout{Epoch: 1} },
		"a layout of a sequencer alone": func(m *api.Message) { m.Layout = api.Layout{Sequencer: 1} },
		"a layout of sequencer -1":      func(m *api.Message) { m.Layout = api.Layout{Sequencer: -1} },
		"a layout of an empty segment":  func(m *api.Message) { m.Layout = api.Layout{Segments: []api.Segment{{}}} },
		"a layout of epoch 0":           func(m *api.Message) { m.Layout = someLayout(); m.Layout.Epoch = 0 },
		"a layout of MaxEpoch + 1":      func(m *api.Message) { m.Layout = someLayout(); m.Layout.Epoch = api.MaxEpoch + 1 },
		"a layout of sequencer 32":      func(m *api.Message) { m.Layout = someLayout(); m.Layout.Sequencer = 32 },
		"a layout without segments":     func(m *api.Message) { m.Layout = someLayout(); m.Layout.Segments = nil },
		"a layout that begins at 1":     func(m *api.Message) { m.Layout = someLayout(); m.Layout.Segments[0].From = 1 },
		"a layout's Froms are equal":    func(m *api.Message) { m.Layout = someLayout(); m.Layout.Segments[1].From = 0 },
		"a layout without chains":       func(m *api.Message) { m.Layout = someLayout(); m.Layout.Segments[1].Chains = nil },
		"a layout with an empty chain":  func(m *api.Message) { m.Layout = someLayout(); m.Layout.Segments[0].Chains[1] = nil },
		"a layout with a unit twice":    func(m *api.Message) { m.Layout = someLayout(); m.Layout.Segments[0].Chains[1][0] = 2 },
		"a layout with unit 32":         func(m *api.Message) { m.Layout = someLayout(); m.Layout.Segments[0].Chains[1][0] = 32 },
		"a layout with five of segments": func(m *api.Message) {
			m.Layout = largestLayout()
			m.Layout.Segments = append(m.Layout.Segments, smallLayout().Segments...)
		},
	}.each(t, false, least(), given(), largest())
}

// P10.1: any two numbers as a Last, in the first, the fifth and the last Back.
func TestEveryLast(t *testing.T) {
	for _, x := range addresses() {
		for _, y := range addresses() {
			for _, at := range []int{0, 4, 15} {
				m := least()
				m.Backs = backs(0, 15)
				m.Backs[at].Last = [2]uint64{x, y}
				holds(t, "any Last", m)
			}
		}
	}
}

// P10.1: each set of streams, as Streams and as those of Backs; Right takes all that have no more than there may be.
func TestEverySetOfStreams(t *testing.T) {
	for set := range 1 << 16 {
		m := least()
		for s := range 16 {
			if set>>s&1 == 1 {
				m.Backs = append(m.Backs, back(s, uint64(s+1), none))
				m.Streams = append(m.Streams, s)
			}
		}
		n := len(m.Streams)
		if got := message.Right(m); got != (n <= 4) {
			t.Fatalf("Right(%s): %v", tell(m), got)
		}
		m.Streams = m.Streams[:min(n, 4)]
		if !message.Right(m) {
			t.Fatalf("Right(%s): false", tell(m))
		}
		if set%97 == 0 {
			holds(t, "any set", m)
		}
	}
}

// P2, rule 4: Right changes no message, nor what is behind the ends of its lists, and answers the same again.
func TestRightKeepsMessages(t *testing.T) {
	bad := given()
	bad.Backs = append(bad.Backs, back(2, 5, 4))
	for _, m := range append(some(), bad, api.Message{}) {
		x := lent(m)
		first, second := message.Right(x), message.Right(x)
		kept(t, "Right", x, m)
		if first != second || first != valid(m) {
			t.Errorf("Right(%s): %v, then %v", tell(m), first, second)
		}
	}
}
