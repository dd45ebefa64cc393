package connect

import (
	"switchboard/api"
	"switchboard/octet"
)

// The bits of a Connect's flags.
const (
	flagNone   = 1 // says nothing, and may not be there
	flagClean  = 2
	flagWill   = 4
	flagRetain = 32
	flagPass   = 64
	flagUser   = 128
)

// The two bits of a will's quality, and where they stand.
const (
	qualityBits  = 3
	qualityShift = 3
	mostQuality  = 2
)

// flagsOf: the byte of flags that a Connect has.
func flagsOf(c Connect) byte {
	flags := bit(c.Clean, flagClean) | bit(c.HasPass, flagPass) | bit(c.HasUser, flagUser)
	if c.HasWill {
		flags |= flagWill | c.Will.QoS&qualityBits<<qualityShift | bit(c.Will.Retain, flagRetain)
	}
	return flags
}

// takeFlags: a Connect of which no more is known than its flags say.
func takeFlags(r *octet.In) Connect {
	flags := r.Byte()
	if !mayBe(flags) {
		r.Fail(api.ErrForm)
	}
	return Connect{
		Clean:   flags&flagClean != 0,
		HasWill: flags&flagWill != 0,
		Will:    Will{QoS: quality(flags), Retain: flags&flagRetain != 0},
		HasPass: flags&flagPass != 0,
		HasUser: flags&flagUser != 0,
	}
}

func mayBe(flags byte) bool {
	if flags&flagNone != 0 {
		return false
	}
	if flags&flagWill == 0 {
		return quality(flags) == 0 && flags&flagRetain == 0
	}
	return quality(flags) <= mostQuality
}

func quality(flags byte) byte {
	return flags >> qualityShift & qualityBits
}

// bit: a flag, if it is set.
func bit(set bool, flag byte) byte {
	if set {
		return flag
	}
	return 0
}
