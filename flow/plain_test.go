package flow_test

import (
	"math/big"
	"strconv"

	"mailcoach/api"
	"mailcoach/flow"
)

// The chapter's words once more, in numbers of any size, to hold the package's answers against.

func whole(n uint64) *big.Int { return new(big.Int).SetUint64(n) }

func above(a, b *big.Int) bool { return a.Cmp(b) > 0 }

func greatest() *big.Int { return new(big.Int).Sub(new(big.Int).Lsh(big.NewInt(1), 62), big.NewInt(1)) }

func plainMayBe(c flow.Credit) bool {
	return !above(whole(c.Limit), greatest()) && !above(whole(c.Used), whole(c.Limit))
}

func plainSpend(c flow.Credit, n uint64) (flow.Credit, api.Errno) {
	if !plainMayBe(c) || above(whole(n), greatest()) {
		return flow.Credit{}, api.ErrArg
	}
	used := new(big.Int).Add(whole(c.Used), whole(n))
	if above(used, whole(c.Limit)) {
		return flow.Credit{}, api.ErrFlow
	}
	return flow.Credit{Limit: c.Limit, Used: used.Uint64()}, api.OK
}

func plainLeft(c flow.Credit) uint64 {
	if !plainMayBe(c) {
		return 0
	}
	return new(big.Int).Sub(whole(c.Limit), whole(c.Used)).Uint64()
}

func plainRaise(c flow.Credit, limit uint64) (flow.Credit, api.Errno) {
	if !plainMayBe(c) || above(whole(limit), greatest()) {
		return flow.Credit{}, api.ErrArg
	}
	if above(whole(limit), whole(c.Limit)) {
		c.Limit = limit
	}
	return c, api.OK
}

func plainCame(c flow.Credit, upTo uint64) (flow.Credit, api.Errno) {
	if !plainMayBe(c) || above(whole(upTo), greatest()) {
		return flow.Credit{}, api.ErrArg
	}
	if above(whole(upTo), whole(c.Limit)) {
		return flow.Credit{}, api.ErrFlow
	}
	if above(whole(upTo), whole(c.Used)) {
		c.Used = upTo
	}
	return c, api.OK
}

func plainOffer(c flow.Credit, read, window uint64) (uint64, bool) {
	if !plainMayBe(c) || above(whole(read), greatest()) || above(whole(window), greatest()) {
		return 0, false
	}
	limit := new(big.Int).Add(whole(read), whole(window))
	if above(limit, greatest()) {
		limit = greatest()
	}
	if !above(limit, whole(c.Limit)) {
		return 0, false
	}
	more := new(big.Int).Sub(limit, whole(c.Limit))
	if above(whole(window), new(big.Int).Add(more, more)) {
		return 0, false
	}
	return limit.Uint64(), true
}

// plainStream: of the number's bits, written out as a text of 64.
func plainStream(id uint64) (server, oneWay bool, n uint64) {
	b := new(big.Int).Add(new(big.Int).Lsh(big.NewInt(1), 64), whole(id)).Text(2)[1:]
	n, err := strconv.ParseUint(b[:62], 2, 64)
	if err != nil {
		panic(err)
	}
	return b[63] == '1', b[62] == '1', n
}

func plainID(server, oneWay bool, n uint64) (uint64, api.Errno) {
	if n >= 1<<60 {
		return 0, api.ErrArg
	}
	b := strconv.FormatUint(n, 2)
	for _, set := range []bool{oneWay, server} {
		b += map[bool]string{true: "1", false: "0"}[set]
	}
	id, err := strconv.ParseUint(b, 2, 64)
	if err != nil {
		panic(err)
	}
	return id, api.OK
}
