package alias

// The text of all fields: what is exact goes by it.
const allFields = "012345"

// isFields tells whether a text is a text of fields. One that is longer than
// the text of all is refused unread.
func isFields(text string) bool {
	if len(text) > len(allFields) {
		return false
	}
	for i := 0; i < len(text); i++ {
		if !fits('f', text[i]) {
			return false
		}
		if i > 0 && text[i-1] >= text[i] {
			return false
		}
	}
	return true
}

// toldApart tells whether a field is one of a text of fields.
func toldApart(fields string, f byte) bool {
	for i := 0; i < len(fields); i++ {
		if fields[i] == f {
			return true
		}
	}
	return false
}
