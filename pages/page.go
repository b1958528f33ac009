package pages

import (
	"strings"

	"armoire/api"
	"armoire/codec"
	"armoire/crc"
	"armoire/device"
)

// sumSize is how many bytes of a page are the sum of the others.
const sumSize = 4

// page is what a page has.
type page struct{ text string }

// bytes: the sum of what stands behind, and this.
func (p page) bytes() string {
	var o codec.Out
	behind := o.S(p.text).Text()
	behind += strings.Repeat("\x00", Size-sumSize-len(behind))
	return crc.Bytes(crc.Of(behind)) + behind
}

// parsePage is the text of a page's bytes; ErrBad: they are none's.
func parsePage(b string) (string, api.Errno) {
	sum, behind := b[:sumSize], b[sumSize:]
	if sum != crc.Bytes(crc.Of(behind)) {
		return "", api.ErrBad
	}
	i := codec.Read(behind)
	text := i.S(Room)
	if i.Err() != api.OK {
		return "", api.ErrBad
	}
	rest := behind[len(behind)-i.Len():]
	if strings.Trim(rest, "\x00") != "" {
		return "", api.ErrBad
	}
	return text, api.OK
}

// readPage is the text of a page on a device.
func readPage(d *device.Device, id int) (string, api.Errno) {
	var b strings.Builder
	for k := range Sectors {
		sector, err := d.Read(place(id) + k)
		if err != api.OK {
			return "", err
		}
		b.WriteString(sector)
	}
	return parsePage(b.String())
}

// write writes a page's sectors, one behind the other.
func (p page) write(d *device.Device, id int) api.Errno {
	b := p.bytes()
	for k := range Sectors {
		from := k * device.Size
		if err := d.Write(place(id)+k, b[from:from+device.Size]); err != api.OK {
			return err
		}
	}
	return api.OK
}
