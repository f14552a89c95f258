package whole

import "strings"

// chunk digits fit into a limb, whatever they are.
const (
	chunk      = 19
	chunkPower = 10000000000000000000
)

// Read returns the number with a decimal text: an optional minus sign and digits, no 0 ahead of others, no -0. It reports whether there is one.
func Read(text string) (Int, bool) {
	digits := strings.TrimPrefix(text, "-")
	below := len(digits) < len(text)
	if digits == "" || digits[0] == '0' && (below || len(digits) > 1) {
		return Int{}, false
	}
	var limbs []uint64
	for len(digits) > 0 {
		size := (len(digits)-1)%chunk + 1
		value, ok := readChunk(digits[:size])
		if !ok {
			return Int{}, false
		}
		limbs = timesPlus(limbs, chunkPower, value)
		digits = digits[size:]
	}
	return withSign(below, limbs), true
}

func readChunk(digits string) (uint64, bool) {
	var value uint64
	for i := range len(digits) {
		if digits[i] < '0' || digits[i] > '9' {
			return 0, false
		}
		value = value*10 + uint64(digits[i]-'0')
	}
	return value, true
}

// Text returns the decimal text that Read reads.
func (n Int) Text() string {
	if len(n.limbs) == 0 {
		return "0"
	}
	var chunks []uint64
	limbs := n.limbs
	for len(limbs) > 0 {
		var rest uint64
		limbs, rest = divideShort(limbs, chunkPower)
		chunks = append(chunks, rest)
	}
	digits := make([]byte, 0, len(chunks)*chunk)
	for i := len(chunks) - 1; i >= 0; i-- {
		digits = appendChunk(digits, chunks[i])
	}
	text := strings.TrimLeft(string(digits), "0")
	if n.below {
		return "-" + text
	}
	return text
}

// appendChunk appends all 19 digits of value, zeros ahead of it as well.
func appendChunk(digits []byte, value uint64) []byte {
	for power := uint64(chunkPower / 10); power > 0; power /= 10 {
		digits = append(digits, byte('0'+value/power%10))
	}
	return digits
}
