package alias

// The text of all fields: what is exact goes by it.
const allFields = "012345"

// How many texts of fields there are: each field is in a text or not.
const fieldTexts = 1 << len(allFields)

// isFields tells whether a text is a text of fields. One that is longer than
// the text of all is refused unread.
func isFields(text string) bool {
	if len(text) > len(allFields) {
		return false
	}
	for i := 0; i < len(text); i++ {
		if !fits('f', text[i]) {
			return false
		}
		if i > 0 && text[i-1] >= text[i] {
			return false
		}
	}
	return true
}

// toldApart tells whether a field is one of a text of fields.
func toldApart(fields string, f byte) bool {
	for i := 0; i < len(fields); i++ {
		if fields[i] == f {
			return true
		}
	}
	return false
}

// fieldText answers the text of fields of a number from 0 on, below fieldTexts:
// each of its binary digits tells of one field whether it is in the text.
func fieldText(number int) string {
	var out []byte
	for i := 0; i < len(allFields); i++ {
		if number%2 == 1 {
			out = append(out, allFields[i])
		}
		number /= 2
	}
	return string(out)
}

// isAhead tells whether a text is shorter than another one, or as short and
// lower.
func isAhead(text string, other string) bool {
	if len(text) != len(other) {
		return len(text) < len(other)
	}
	return text < other
}
