package sum

const allBits = 0xFFFFFFFF

// halfSums: what four bits, taken lowest first, come to; the polynomial 0x04C11DB7 is mirrored for that.
var halfSums = [16]uint32{
	0x00000000, 0x1DB71064, 0x3B6E20C8, 0x26D930AC, 0x76DC4190, 0x6B6B51F4, 0x4DB26158, 0x5005713C,
	0xEDB88320, 0xF00F9344, 0xD6D6A3E8, 0xCB61B38C, 0x9B64C2B0, 0x86D3D2D4, 0xA00AE278, 0xBDBDF21C,
}

// CRC tells the CRC-32 of bytes.
func CRC(b []byte) uint32 {
	var x uint32 = allBits
	for _, c := range b {
		x ^= uint32(c)
		x = x>>4 ^ halfSums[x&15]
		x = x>>4 ^ halfSums[x&15]
	}
	return x ^ allBits
}
