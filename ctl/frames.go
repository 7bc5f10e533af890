package ctl

import (
	"jackstay/api"
	"jackstay/stuff"
	"jackstay/take"
)

const (
	ackBack     = 9  // the acknowledgement slot is so many bits before a wire form's end
	baseContest = 12 // plain bits behind a base frame's start that decide the arbitration
	extContest  = 32 // those of an extended frame
)

// send samples a bit of a frame that the controller sends.
func (s *state) send(bit bool) api.Happen {
	switch {
	case bit == onWire(s.Ctl):
		return s.asDriven(bit)
	case bit:
		return s.fail(api.HapBit)
	case s.atAck():
		return s.goOn(bit)
	case !s.inContest():
		return s.fail(api.HapBit)
	}
	// A frame that wins has the same stuff bits up to there: one that is overwritten is
	// no loss, but an error, and it may be another node's: it is not counted.
	if _, due := stuff.Owed(s.Take.Row); due {
		return s.flag(s.mode(), api.HapFill)
	}
	s.Take, _ = take.Next(s.Take, bit)
	s.Sends, s.Sender = false, false
	s.Wire, s.At = nil, 0
	return api.Happen{What: api.HapLost}
}

// asDriven samples what the sender drove: at the acknowledgement slot that means that
// nobody has read the frame.
func (s *state) asDriven(bit bool) api.Happen {
	if s.atAck() {
		return s.unheard()
	}
	if s.At < len(s.Wire)-1 {
		return s.goOn(bit)
	}
	happen := api.Happen{What: api.HapSent, Frame: s.Give}
	s.Has, s.Give = false, api.Frame{}
	s.count(api.ConfSent)
	s.enter(api.PhaseInter)
	return happen
}

// goOn goes on to the next bit of the wire form.
func (s *state) goOn(bit bool) api.Happen {
	s.Take, _ = take.Next(s.Take, bit)
	s.At++
	return api.Happen{}
}

// unheard is the error of a frame that nobody acknowledges. A passive controller owes
// its event until it knows that it is not alone.
func (s *state) unheard() api.Happen {
	mode := s.mode()
	if mode != api.ConfPassive {
		return s.fail(api.HapAck)
	}
	happen := s.flag(mode, api.HapAck)
	s.Owed = true
	return happen
}

// atAck reports whether a sender is at the acknowledgement slot.
func (s *state) atAck() bool { return s.At == len(s.Wire)-ackBack }

// inContest reports whether a sender is during arbitration: the next bit is one that
// decides it, or a stuff bit among these.
func (s *state) inContest() bool {
	most := baseContest
	if s.Give.Ext {
		most = extContest
	}
	return len(s.Take.Bits) <= most
}

// read samples a bit of a frame that the controller does not send.
func (s *state) read(bit bool) api.Happen {
	drove := take.Drive(s.Take)
	next, said := take.Next(s.Take, bit)
	s.Take = next
	switch said {
	case api.TakeStuff:
		return s.fail(api.HapFill)
	case api.TakeForm:
		return s.fail(api.HapForm)
	case api.TakeSum:
		return s.fail(api.HapSum)
	case api.TakeGot:
		s.count(api.ConfTook)
		f, _ := take.Frame(s.Take)
		return api.Happen{What: api.HapTook, Frame: f}
	case api.TakeLate:
		return s.overload()
	case api.TakeOver:
		s.enter(api.PhaseInter)
		return api.Happen{}
	}
	if bit && !drove {
		return s.fail(api.HapBit)
	}
	return api.Happen{}
}
