package der

import "clepsydra/api"

// The least and the greatest byte of a text.
const (
	leastText = 32
	mostText  = 126
)

// mostLoose is how many bits of the last byte of a TagBits may be none of its own.
const mostLoose = 7

// isTag tells whether there is such a tag.
func isTag(tag int) bool {
	switch tag {
	case api.TagBool, api.TagInt, api.TagBits, api.TagOctets, api.TagNull, api.TagText:
		return true
	}
	return hasKids(tag)
}

// hasKids tells whether a tag's values have kids, and no bytes of their own.
func hasKids(tag int) bool { return tag == api.TagSeq || tag == api.TagSet }

// mayHave tells whether a value with a tag, which is none of kids, may have such bytes.
func mayHave(tag int, b []byte) bool {
	switch tag {
	case api.TagBool:
		return len(b) == 1 && (b[0] == 0 || b[0] == 255)
	case api.TagInt:
		return isShortest(b)
	case api.TagBits:
		return areBits(b)
	case api.TagOctets:
		return true
	case api.TagNull:
		return len(b) == 0
	case api.TagText:
		return isText(b)
	}
	return false
}

// isShortest tells whether bytes are a number with a sign that fewer could not be.
func isShortest(b []byte) bool {
	if len(b) < 2 {
		return len(b) == 1
	}
	negative := b[1] >= 128
	return b[0] != 0 && b[0] != 255 || b[0] == 0 && negative || b[0] == 255 && !negative
}

// areBits tells whether bytes are bits behind the number of the loose ones at their end, which are 0.
func areBits(b []byte) bool {
	if len(b) == 0 || b[0] > mostLoose || len(b) == 1 && b[0] != 0 {
		return false
	}
	loose := byte(1)<<b[0] - 1
	return b[len(b)-1]&loose == 0
}

// isText tells whether bytes are a text's.
func isText(b []byte) bool {
	for _, c := range b {
		if c < leastText || c > mostText {
			return false
		}
	}
	return true
}
