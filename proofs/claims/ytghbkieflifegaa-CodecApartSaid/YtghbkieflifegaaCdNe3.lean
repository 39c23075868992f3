/- codec's law: two messages that are not the same. -/
import Derived.Test.YtghbkieflifegaaCdSame
namespace Go.Proofs.Ytghbkieflifegaa
open Go Go.RowKit Go.ChangeShapes cl

set_option maxHeartbeats 12800000 in
set_option maxRecDepth 100000 in
theorem ne_sn (k f to g n ki er  : Int) (mn mv  : ByteArray) (sn ne sn' ne' : Nat) (ae : Option Addr) (ce : Nat) (aa : Option Addr) (na ca : Nat) (p1 : Option Addr) (m1 k1 : Nat) (p2 : Option Addr) (m2 k2 : Nat) (p3 : Option Addr) (m3 k3 : Nat) (p4 : Option Addr) (m4 k4 : Nat) (sa : Option Addr) (sc : Nat) (ae' : Option Addr) (ce' : Nat) (aa' : Option Addr) (na' ca' : Nat) (p1' : Option Addr) (m1' k1' : Nat) (p2' : Option Addr) (m2' k2' : Nat) (p3' : Option Addr) (m3' k3' : Nat) (p4' : Option Addr) (m4' k4' : Nat) (sa' : Option Addr) (sc' : Nat) (w : World) (hne : ¬ sn = sn') :
    Calls Try.prog 14 #[.agg #[.int .i64 k, .int .i64 f, .int .i64 to, .int .i64 g, .int .i64 n, .slice ae ne ce, .slice aa na ca, .slice p1 m1 k1, .slice p2 m2 k2, .slice p3 m3 k3, .slice p4 m4 k4, .int .i64 ki, .string mn, .string mv, .slice sa sn sc, .int .i64 er], .agg #[.int .i64 k, .int .i64 f, .int .i64 to, .int .i64 g, .int .i64 n, .slice ae' ne' ce', .slice aa' na' ca', .slice p1' m1' k1', .slice p2' m2' k2', .slice p3' m3' k3', .slice p4' m4' k4', .int .i64 ki, .string mn, .string mv, .slice sa' sn' sc', .int .i64 er]] w (Said false w) := by
  have d : ((sn : Int) == (sn' : Int)) = false := by simp; omega
  have d2 : ((sn : Int) != (sn' : Int)) = true := by simp; omega
  have d3 : ¬ (sn : Int) = (sn' : Int) := by omega
  have hb : Below w.heap.size w ((w.alloc (.cells #[.int .i64 k, .int .i64 f, .int .i64 to, .int .i64 g, .int .i64 n, .slice ae ne ce, .slice aa na ca, .slice p1 m1 k1, .slice p2 m2 k2, .slice p3 m3 k3, .slice p4 m4 k4, .int .i64 ki, .string mn, .string mv, .slice sa sn sc, .int .i64 er] 33)).alloc (.cells #[.int .i64 k, .int .i64 f, .int .i64 to, .int .i64 g, .int .i64 n, .slice ae' ne' ce', .slice aa' na' ca', .slice p1' m1' k1', .slice p2' m2' k2', .slice p3' m3' k3', .slice p4' m4' k4', .int .i64 ki, .string mn, .string mv, .slice sa' sn' sc', .int .i64 er] 33)) := below1.trans (below1.mono (by simp))
  go_enter Try.func14, Try.ntmps14
  go_wp2
  go_ret
  exact ⟨rfl, hb⟩

set_option maxHeartbeats 12800000 in
set_option maxRecDepth 100000 in
theorem ne_ne (k f to g n ki er  : Int) (mn mv  : ByteArray) (sn ne ne' : Nat) (ae : Option Addr) (ce : Nat) (aa : Option Addr) (na ca : Nat) (p1 : Option Addr) (m1 k1 : Nat) (p2 : Option Addr) (m2 k2 : Nat) (p3 : Option Addr) (m3 k3 : Nat) (p4 : Option Addr) (m4 k4 : Nat) (sa : Option Addr) (sc : Nat) (ae' : Option Addr) (ce' : Nat) (aa' : Option Addr) (na' ca' : Nat) (p1' : Option Addr) (m1' k1' : Nat) (p2' : Option Addr) (m2' k2' : Nat) (p3' : Option Addr) (m3' k3' : Nat) (p4' : Option Addr) (m4' k4' : Nat) (sa' : Option Addr) (sc' : Nat) (w : World) (hne : ¬ ne = ne') :
    Calls Try.prog 14 #[.agg #[.int .i64 k, .int .i64 f, .int .i64 to, .int .i64 g, .int .i64 n, .slice ae ne ce, .slice aa na ca, .slice p1 m1 k1, .slice p2 m2 k2, .slice p3 m3 k3, .slice p4 m4 k4, .int .i64 ki, .string mn, .string mv, .slice sa sn sc, .int .i64 er], .agg #[.int .i64 k, .int .i64 f, .int .i64 to, .int .i64 g, .int .i64 n, .slice ae' ne' ce', .slice aa' na' ca', .slice p1' m1' k1', .slice p2' m2' k2', .slice p3' m3' k3', .slice p4' m4' k4', .int .i64 ki, .string mn, .string mv, .slice sa' sn sc', .int .i64 er]] w (Said false w) := by
  have d : ((ne : Int) == (ne' : Int)) = false := by simp; omega
  have d2 : ((ne : Int) != (ne' : Int)) = true := by simp; omega
  have d3 : ¬ (ne : Int) = (ne' : Int) := by omega
  have hb : Below w.heap.size w ((w.alloc (.cells #[.int .i64 k, .int .i64 f, .int .i64 to, .int .i64 g, .int .i64 n, .slice ae ne ce, .slice aa na ca, .slice p1 m1 k1, .slice p2 m2 k2, .slice p3 m3 k3, .slice p4 m4 k4, .int .i64 ki, .string mn, .string mv, .slice sa sn sc, .int .i64 er] 33)).alloc (.cells #[.int .i64 k, .int .i64 f, .int .i64 to, .int .i64 g, .int .i64 n, .slice ae' ne' ce', .slice aa' na' ca', .slice p1' m1' k1', .slice p2' m2' k2', .slice p3' m3' k3', .slice p4' m4' k4', .int .i64 ki, .string mn, .string mv, .slice sa' sn sc', .int .i64 er] 33)) := below1.trans (below1.mono (by simp))
  go_enter Try.func14, Try.ntmps14
  go_wp2
  go_ret
  exact ⟨rfl, hb⟩
end Go.Proofs.Ytghbkieflifegaa
