package proposer

import (
	"rotulet/acceptor"
	"rotulet/api"
	"rotulet/message"
)

// Serve is a layout server's answer to a question.
func Serve(x *acceptor.Acceptor, m api.Message) (api.Message, bool) {
	if x == nil || !message.Right(m) {
		return api.Message{}, false
	}
	var s acceptor.State
	var e api.Errno
	switch m.Kind {
	case api.Prepare:
		s, e = x.Prepare(m.Epoch, m.Ballot)
	case api.Accept:
		s, e = x.Accept(m.Epoch, m.Ballot, m.Layout)
	case api.Learn:
		s, e = x.Learn(m.Epoch)
	default:
		return api.Message{}, false
	}
	return answer(m, s, e), true
}

// answer tells of a server's state what the question was about; the state beside an error other than ErrBallot is zero.
func answer(m api.Message, s acceptor.State, e api.Errno) api.Message {
	a := message.Answer(m, e)
	a.Ballot = m.Ballot
	switch m.Kind {
	case api.Learn:
		a.Ballot, a.Promised, a.Layout = s.Accepted, s.Promised, s.Layout
	case api.Prepare:
		a.Promised, a.Layout = s.Accepted, s.Layout
		fallthrough
	case api.Accept:
		// Whoever was refused has to go beyond what is promised.
		if e == api.ErrBallot {
			a.Promised = s.Promised
		}
	}
	return a
}
