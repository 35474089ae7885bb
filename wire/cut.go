package wire

import "sundial/api"

// pieces is a packet's bytes, cut into its parts. They share the packet's memory.
type pieces struct {
	header []byte
	fields [][]byte // each with its front
	end    []byte
	auth   api.Auth // what the end is
}

// cut cuts the bytes of a packet. ErrShort, ErrLong, ErrVersion, ErrField.
func cut(b []byte) (pieces, api.Errno) {
	if len(b) < headerLength || len(b)%unit != 0 {
		return pieces{}, api.ErrShort
	}
	if len(b) > api.MaxPacket {
		return pieces{}, api.ErrLong
	}
	if !isVersion(version(b)) {
		return pieces{}, api.ErrVersion
	}
	c := pieces{header: b[:headerLength]}
	rest := b[headerLength:]
	for len(rest) > longestEnd {
		n := int(number(rest[typeLength:frontLength]))
		if !isFieldLength(n) || n > len(rest) || len(c.fields) == api.MaxFields {
			return pieces{}, api.ErrField
		}
		c.fields = append(c.fields, rest[:n])
		rest = rest[n:]
	}
	auth, ok := authOf(rest)
	if !ok {
		return pieces{}, api.ErrField
	}
	c.end, c.auth = rest, auth
	return c, api.OK
}

// authOf is what the bytes at a packet's end are. False: they are no end.
func authOf(end []byte) (api.Auth, bool) {
	switch len(end) {
	case 0:
		return api.AuthNone, true
	case idLength:
		return api.AuthNak, number(end) == 0
	case idLength + shortDigest, idLength + longDigest:
		return api.AuthMac, true
	}
	return api.AuthNone, false
}
