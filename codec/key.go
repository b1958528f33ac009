package codec

import (
	"armoire/api"
)

// What stands behind a byte 00 of a key. The end, 00 01, stands below whatever else may come there, so that a part stands ahead of all that go on from it.
const (
	endMark  = 0x01 // the part ends
	zeroMark = 0xff // the part has a byte 00
)

// Key: of parts: each byte 0 has a byte ff behind it, and 00 01 ends a part.
func Key(parts ...string) string {
	var key []byte
	for _, part := range parts {
		key = appendPart(key, part)
	}
	return string(key)
}

// appendPart puts a part and its end behind a key.
func appendPart(key []byte, part string) []byte {
	for _, b := range []byte(part) {
		key = append(key, b)
		if b == 0 {
			key = append(key, zeroMark)
		}
	}
	return append(key, 0, endMark)
}

// Parts: of a key.
func Parts(key string) ([]string, api.Errno) {
	var parts []string
	for key != "" {
		part, size, err := firstPart(key)
		if err != api.OK {
			return nil, err
		}
		parts = append(parts, part)
		key = key[size:]
	}
	return parts, api.OK
}

// firstPart is the part at the front of a key, and how many bytes of the key it takes.
func firstPart(key string) (string, int, api.Errno) {
	var part []byte
	for k := 0; k < len(key); k++ {
		if key[k] != 0 {
			part = append(part, key[k])
			continue
		}
		k++
		if k == len(key) {
			return "", 0, api.ErrEnd
		}
		switch key[k] {
		case endMark:
			return string(part), k + 1, api.OK
		case zeroMark:
			part = append(part, 0)
		default:
			return "", 0, api.ErrForm
		}
	}
	return "", 0, api.ErrEnd
}
