package frame

import (
	"mailcoach/api"
	"mailcoach/ranges"
)

// Fields of a frame, a bit each.
const (
	hasStream = 1 << iota
	hasOffset
	hasLimit
	hasCode
	hasFin
	hasData
	hasRanges
)

// named: the fields that the row of each kind names.
var named = [...]int{
	api.FrPadding:       hasLimit,
	api.FrPing:          0,
	api.FrAck:           hasRanges | hasLimit,
	api.FrReset:         hasStream | hasCode | hasLimit,
	api.FrStop:          hasStream | hasCode,
	api.FrCrypto:        hasOffset | hasData,
	api.FrStream:        hasStream | hasOffset | hasData | hasFin,
	api.FrMaxData:       hasLimit,
	api.FrMaxStreamData: hasStream | hasLimit,
	api.FrMaxStreams:    hasLimit | hasFin,
	api.FrDataBlocked:   hasLimit,
	api.FrStreamBlocked: hasStream | hasLimit,
	api.FrClose:         hasCode | hasData | hasFin,
	api.FrDone:          0,
}

// isKind: is a kind one of the table's?
func isKind(k api.FrameKind) bool { return k != api.FrNone && int(k) < len(named) }

// mayBeAll: may these frames be, in this order?
func mayBeAll(l []api.Frame) bool {
	for i, f := range l {
		if !mayBe(f) {
			return false
		}
		if i > 0 && f.Kind == api.FrPadding && l[i-1].Kind == api.FrPadding {
			return false // they'd be read as one
		}
	}
	return true
}

// mayBe: may a frame be, whatever stands beside it?
func mayBe(f api.Frame) bool {
	if !isKind(f.Kind) || fieldsOf(f)&^named[f.Kind] != 0 {
		return false
	}
	if max(f.Stream, f.Offset, f.Limit, f.Code) > api.MaxNumber {
		return false
	}
	switch f.Kind {
	case api.FrPadding:
		return f.Limit >= 1 && f.Limit <= maxPadding
	case api.FrAck:
		return len(f.Ranges) > 0 && ranges.Check(f.Ranges)
	case api.FrCrypto, api.FrStream:
		return f.Offset+uint64(len(f.Data)) <= api.MaxNumber
	case api.FrMaxStreams:
		return f.Limit <= maxStreams
	}
	return true
}

// fieldsOf: the fields of a frame that are not zero.
func fieldsOf(f api.Frame) int {
	fields := 0
	for _, x := range []struct {
		field int
		is    bool
	}{
		{hasStream, f.Stream != 0},
		{hasOffset, f.Offset != 0},
		{hasLimit, f.Limit != 0},
		{hasCode, f.Code != 0},
		{hasFin, f.Fin},
		{hasData, len(f.Data) > 0},
		{hasRanges, len(f.Ranges) > 0},
	} {
		if x.is {
			fields |= x.field
		}
	}
	return fields
}
