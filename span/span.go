// Package span is layer 3: intervals of integers, rounded outward; see shared/doc/03-span.md.
package span

import "loftblock/api"

func Valid(a api.Span) (_ bool) { return }

func Add(a, b api.Span) (_ api.Span, _ api.Errno) { return }

func Sub(a, b api.Span) (_ api.Span, _ api.Errno) { return }

func Mul(a, b api.Span) (_ api.Span, _ api.Errno) { return }

func Div(a, b api.Span) (_ api.Span, _ api.Errno) { return }

func Times(a api.Span, num, den int) (_ api.Span, _ api.Errno) { return }

func Hull(a, b api.Span) (_ api.Span, _ api.Errno) { return }

func Meet(a, b api.Span) (_ api.Span, _ api.Errno) { return }

func Of(a api.Frac, unit int) (_ api.Span, _ api.Errno) { return }

func Root(a api.Span) (_ api.Span, _ api.Errno) { return }
