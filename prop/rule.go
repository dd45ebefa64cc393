package prop

import (
	"math"

	"switchboard/api"
)

// The places of properties, a bit each, so that a rule names several in one number. A will's is the bit 0, since no packet has the kind 0.
const (
	inWill        = 1
	inConnect     = 1 << api.Connect
	inConnack     = 1 << api.Connack
	inPublish     = 1 << api.Publish
	inPuback      = 1 << api.Puback
	inPubrec      = 1 << api.Pubrec
	inPubrel      = 1 << api.Pubrel
	inPubcomp     = 1 << api.Pubcomp
	inSubscribe   = 1 << api.Subscribe
	inSuback      = 1 << api.Suback
	inUnsubscribe = 1 << api.Unsubscribe
	inUnsuback    = 1 << api.Unsuback
	inDisconnect  = 1 << api.Disconnect
	inAuth        = 1 << api.Auth

	inMessages = inPublish | inWill
	inOpening  = inConnect | inConnack
	inAnswers  = inConnack | inPuback | inPubrec | inPubrel | inPubcomp | inSuback | inUnsuback | inDisconnect | inAuth
	inAsking   = inConnect | inMessages | inSubscribe | inUnsubscribe
)

// placeOf: the bit of a packet's kind, or of a will; 0, which meets no rule, for what is no packet.
func placeOf(kind int, isWill bool) int {
	if isWill {
		return inWill
	}
	if kind < api.Connect || kind > api.Auth {
		return 0
	}
	return 1 << kind
}

// rule is a row of the document's table: what is said, where, where several may be, and which numbers.
type rule struct {
	kind        int
	in          int
	several     int
	least, most uint32
}

// ruleOf: the rule of an identifier; the zero rule, which has no kind and no place, if there is none such.
func ruleOf(id int) rule {
	switch id {
	case Format:
		return rule{kind: Byte, in: inMessages, most: 1}
	case Expires:
		return rule{kind: Four, in: inMessages, most: math.MaxUint32}
	case Content, Response:
		return rule{kind: Text, in: inMessages}
	case Correlation:
		return rule{kind: Data, in: inMessages}
	case Subscribed:
		return rule{kind: Var, in: inPublish | inSubscribe, several: inPublish, least: 1, most: api.MaxVar}
	case Session:
		return rule{kind: Four, in: inOpening | inDisconnect, most: math.MaxUint32}
	case Assigned, 26:
		return rule{kind: Text, in: inConnack}
	case KeepAlive:
		return rule{kind: Two, in: inConnack, most: math.MaxUint16}
	case Method:
		return rule{kind: Text, in: inOpening | inAuth}
	case 22:
		return rule{kind: Data, in: inOpening | inAuth}
	case 23, 25:
		return rule{kind: Byte, in: inConnect, most: 1}
	case WillDelay:
		return rule{kind: Four, in: inWill, most: math.MaxUint32}
	case 28:
		return rule{kind: Text, in: inConnack | inDisconnect}
	case Reason:
		return rule{kind: Text, in: inAnswers}
	case Receive:
		return rule{kind: Two, in: inOpening, least: 1, most: math.MaxUint16}
	case AliasMax:
		return rule{kind: Two, in: inOpening, most: math.MaxUint16}
	case Alias:
		return rule{kind: Two, in: inPublish, most: math.MaxUint16}
	case MaxQoS, 37, 40, 41, 42:
		return rule{kind: Byte, in: inConnack, most: 1}
	case User:
		return rule{kind: Pair, in: inAsking | inAnswers, several: inAsking | inAnswers}
	case MaxPacket:
		return rule{kind: Four, in: inOpening, least: 1, most: math.MaxUint32}
	}
	return rule{}
}
