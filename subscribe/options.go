package subscribe

import (
	"switchboard/api"
	"switchboard/octet"
	"switchboard/word"
)

// The bits of a byte of options: two for the quality, two for the handling, and a flag each.
const (
	twoBits         = 3
	flagNoLocal     = 4
	flagAsPublished = 8
	handlingShift   = 4
	mostOptions     = 63
	mostQuality     = 2
)

// Options: the byte that says how.
func (s Sub) Options() byte {
	options := s.QoS&twoBits | s.Handling&twoBits<<handlingShift
	if s.NoLocal {
		options |= flagNoLocal
	}
	if s.AsPublished {
		options |= flagAsPublished
	}
	return options
}

func takeSub(r *octet.In) Sub {
	filter := word.Take(r)
	options := r.Byte()
	if options > mostOptions {
		r.Fail(api.ErrForm)
	}
	s := Sub{
		Filter:      filter,
		QoS:         options & twoBits,
		NoLocal:     options&flagNoLocal != 0,
		AsPublished: options&flagAsPublished != 0,
		Handling:    options >> handlingShift & twoBits,
	}
	if s.QoS > mostQuality || s.Handling > Not {
		r.Fail(api.ErrProto)
	}
	return s
}
