package ctl

import (
	"jackstay/api"
	"jackstay/conf"
	"jackstay/frame"
	"jackstay/take"
)

const (
	flagBits  = 6 // bits of a flag; of a passive one: equal ones
	delimBits = 8 // recessive bits behind a flag
	longBits  = 8 // dominant bits behind a flag that are one more event
	interBits = 3 // bits between frames
	holdBits  = 8 // bits for which a passive sender holds back
)

// state is a controller that a bit changes.
type state struct{ api.Ctl }

// doings are what is done with a bit, by phases.
func doings() [api.PhaseOff + 1]func(*state, bool) api.Happen {
	return [...]func(*state, bool) api.Happen{
		api.PhaseIdle:  (*state).idle,
		api.PhaseFrame: (*state).inFrame,
		api.PhaseFlag:  (*state).inFlag,
		api.PhaseWeak:  (*state).inWeakFlag,
		api.PhaseOver:  (*state).inFlag,
		api.PhaseWait:  (*state).wait,
		api.PhaseDelim: (*state).delimit,
		api.PhaseInter: (*state).between,
		api.PhaseHold:  (*state).hold,
		api.PhaseOff:   (*state).away,
	}
}

// idle starts a frame, or follows one that another node starts.
func (s *state) idle(bit bool) api.Happen {
	switch {
	case !bit:
		s.begin(s.Has)
	case s.Has:
		s.Sender = true
		return s.fail(api.HapBit)
	}
	return api.Happen{}
}

// inFrame sends a frame, or reads one.
func (s *state) inFrame(bit bool) api.Happen {
	if s.Sends {
		return s.send(bit)
	}
	return s.read(bit)
}

// inFlag drives a flag to its end, whatever is sampled.
func (s *state) inFlag(bit bool) api.Happen {
	var happen api.Happen
	if bit {
		if s.goesOff(s.either(api.ConfFlagSend, api.ConfFlagRecv)) {
			return api.Happen{What: api.HapOff}
		}
		happen.What = api.HapBit
	}
	s.oneMore(flagBits, api.PhaseWait)
	return happen
}

// inWeakFlag waits for equal bits, as a passive controller does not drive its flag. A
// dominant one among them tells that it is not alone.
func (s *state) inWeakFlag(bit bool) api.Happen {
	if !bit && s.Owed {
		s.Owed = false
		if s.goesOff(api.ConfSend) {
			return api.Happen{What: api.HapOff}
		}
	}
	if bit != s.Row.Last {
		s.N = 0
	}
	s.Row.Last = bit
	s.oneMore(flagBits, api.PhaseWait)
	return api.Happen{}
}

// wait waits until all flags are over.
func (s *state) wait(bit bool) api.Happen {
	if bit {
		s.enter(api.PhaseDelim)
		s.N = 1
		return api.Happen{}
	}
	s.N++
	if s.N == 1 && s.Error && !s.Sender {
		s.count(api.ConfFirst)
	}
	if s.N%longBits == 0 && s.goesOff(s.either(api.ConfLongSend, api.ConfLongRecv)) {
		return api.Happen{What: api.HapOff}
	}
	return api.Happen{}
}

// delimit counts the recessive bits behind a flag.
func (s *state) delimit(bit bool) api.Happen {
	if bit {
		s.oneMore(delimBits, api.PhaseInter)
		return api.Happen{}
	}
	if s.N == delimBits-1 {
		return s.overload()
	}
	return s.fail(api.HapForm)
}

// between counts the bits between frames.
func (s *state) between(bit bool) api.Happen {
	behind := api.PhaseIdle
	if s.Sender && s.mode() == api.ConfPassive {
		behind = api.PhaseHold
	}
	switch {
	case bit:
		s.oneMore(interBits, behind)
	case s.N < interBits-1:
		return s.overload()
	default:
		s.begin(s.Has && behind == api.PhaseIdle)
	}
	return api.Happen{}
}

// hold leaves the bus to others for a while.
func (s *state) hold(bit bool) api.Happen {
	if bit {
		s.oneMore(holdBits, api.PhaseIdle)
	} else {
		s.begin(false)
	}
	return api.Happen{}
}

// away counts bits until the controller is on the bus again.
func (s *state) away(bit bool) api.Happen {
	s.Conf = conf.Bit(s.Conf, bit)
	if s.mode() == api.ConfOff {
		return api.Happen{}
	}
	s.enter(api.PhaseIdle)
	return api.Happen{What: api.HapOn}
}

// begin follows a frame from its start on, as its sender or not.
func (s *state) begin(sends bool) {
	s.enter(api.PhaseFrame)
	s.Take, _ = take.Next(api.Taking{}, false)
	s.Sends, s.Sender = sends, sends
	if sends {
		s.Wire, _ = frame.Wire(s.Give)
		s.At = 1
	}
}

// fail is an error of the controller's own: it is counted, and a flag begins, unless
// the controller goes off. The error by which it becomes passive has an active flag.
func (s *state) fail(what uint8) api.Happen {
	mode := s.mode()
	if s.goesOff(s.either(api.ConfSend, api.ConfRecv)) {
		return api.Happen{What: api.HapOff}
	}
	return s.flag(mode, what)
}

// flag begins the flag of an error, as a controller of that mode does.
func (s *state) flag(mode, what uint8) api.Happen {
	phase := api.PhaseWeak
	if mode == api.ConfActive {
		phase = api.PhaseFlag
	}
	s.enter(phase)
	s.Error = true
	return api.Happen{What: what}
}

// overload begins an overload flag.
func (s *state) overload() api.Happen {
	s.enter(api.PhaseOver)
	s.Error = false
	return api.Happen{What: api.HapOver}
}

// goesOff counts an event, and reports whether the controller goes off by it.
func (s *state) goesOff(what uint8) bool {
	s.count(what)
	if s.mode() != api.ConfOff {
		return false
	}
	s.enter(api.PhaseOff)
	s.Sender = false
	return true
}

// count counts an event.
func (s *state) count(what uint8) { s.Conf, _ = conf.Event(s.Conf, what) }

// mode is how the controller stands.
func (s *state) mode() uint8 { return conf.Mode(s.Conf) }

// either is the event of a sender, or that of others.
func (s *state) either(sender, other uint8) uint8 {
	if s.Sender {
		return sender
	}
	return other
}

// oneMore counts a bit of a phase that has so many; behind the last one is another phase.
func (s *state) oneMore(many int, behind uint8) {
	if s.N++; s.N == many {
		s.enter(behind)
	}
}

// enter begins a phase: what belonged to the one before alone is forgotten.
func (s *state) enter(phase uint8) {
	s.Ctl = api.Ctl{
		Phase: phase, Conf: s.Conf,
		Has: s.Has, Give: s.Give,
		Sender: s.Sender, Error: s.Error,
	}
}
