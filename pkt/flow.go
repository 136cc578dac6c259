package pkt

import (
	"stanchion/addr"
	"stanchion/api"
)

// Back is the flow of the other way.
func Back(f api.Flow) api.Flow {
	return api.Flow{Src: f.Dst, Dst: f.Src, SrcPort: f.DstPort, DstPort: f.SrcPort, Proto: f.Proto}
}

// Less says whether a stands ahead of b.
func Less(a, b api.Flow) bool {
	switch {
	case a.Proto != b.Proto:
		return a.Proto < b.Proto
	case a.Src != b.Src:
		return addr.Less(a.Src, b.Src)
	case a.Dst != b.Dst:
		return addr.Less(a.Dst, b.Dst)
	case a.SrcPort != b.SrcPort:
		return a.SrcPort < b.SrcPort
	}
	return a.DstPort < b.DstPort
}
