/- the document's Right on any pattern: by induction. -/
import Derived.Test.YtbccejlemhgioaaRxROkY
namespace Go.Proofs.Ytbccejlemhgioaa
open Go Go.RowKit Go.ChangeShapes cl rx
set_option maxRecDepth 100000 in
theorem rright_zero (e : Nat) (x : Pat) (c : List Value) (w : World) (h : rxR e w w.heap.size c x) : Calls Try.prog 25 #[.agg c.toArray, .int .i64 0] w (fun e w' => e = .returned (.bool false) ∧ Below w.heap.size w w') := by
  obtain ⟨ko, kn, kc, rfl⟩ := rx_form h
  have x2 : (w.alloc (.cells #[.int .i64 x.k, .int .u64 x.cl.a, .int .u64 x.cl.b, .int .u64 x.cl.c, .int .u64 x.cl.d, .slice ko kn kc, .int .i64 x.mn, .int .i64 x.mx] 28)).heap[w.heap.size]? = some (.cells #[.int .i64 x.k, .int .u64 x.cl.a, .int .u64 x.cl.b, .int .u64 x.cl.c, .int .u64 x.cl.d, .slice ko kn kc, .int .i64 x.mn, .int .i64 x.mx] 28) := heap_alloc_new _ _
  have c0 := boxc x2 0 _ rfl
  have c1 := boxc x2 1 _ rfl
  have c2 := boxc x2 2 _ rfl
  have c3 := boxc x2 3 _ rfl
  have c4 := boxc x2 4 _ rfl
  have c5 := boxc x2 5 _ rfl
  have c6 := boxc x2 6 _ rfl
  have c7 := boxc x2 7 _ rfl
  clear h x2
  go_enter Try.func25, Try.ntmps25
  go_wp2
  go_ret
  exact ⟨rfl, below1⟩
theorem rright_any : ∀ (d e : Nat), d ≤ 1000 → ∀ (x : Pat) (c : List Value) (w : World), rxR e w w.heap.size c x → Calls Try.prog 25 #[.agg c.toArray, .int .i64 d] w (fun e w' => e = .returned (.bool (okF d x)) ∧ Below w.heap.size w w')
  | 0, e, _, x, c, w, h => rright_zero e x c w h
  | _ + 1, 0, _, _, _, _, h => h.elim
  | d + 1, e + 1, hd, x, c, w, h => by
    have hh : ((d : Int) + 1) - 1 = (d : Int) := by omega
    have h1 := rright_of d e ((d : Int) + 1) rfl (by omega) (fun y c w zk h =>
      rrkids_any (fun x => okF d x) e ((d : Int) + 1) (by omega) zk (fun x c w h => by
        rw [hh]
        exact rright_any d e (by omega) x c w h) y c w h) x c w h
    exact h1
set_option maxRecDepth 100000 in
theorem rrx_right_any (e : Nat) (x : Pat) (c : List Value) (w : World) (h : rxR e w w.heap.size c x) : Calls Try.prog 18 #[.agg c.toArray] w (fun e w' => e = .returned (.bool (okF 48 x)) ∧ Below w.heap.size w w') := by
  obtain ⟨ko, kn, kc, rfl⟩ := rx_form h
  obtain ⟨W2, hW2⟩ : ∃ W, W = w.alloc (.cells #[.int .i64 x.k, .int .u64 x.cl.a, .int .u64 x.cl.b, .int .u64 x.cl.c, .int .u64 x.cl.d, .slice ko kn kc, .int .i64 x.mn, .int .i64 x.mx] 28) := ⟨_, rfl⟩
  have b2 : Below w.heap.size w W2 := by rw [hW2]; exact below1
  have x2 : W2.heap[w.heap.size]? = some (.cells #[.int .i64 x.k, .int .u64 x.cl.a, .int .u64 x.cl.b, .int .u64 x.cl.c, .int .u64 x.cl.d, .slice ko kn kc, .int .i64 x.mn, .int .i64 x.mx] 28) := by rw [hW2]; exact heap_alloc_new _ _
  obtain ⟨A, hA⟩ : ∃ A, A = okF 48 x := ⟨_, rfl⟩
  have H : Hid (Calls Try.prog 25 #[.agg #[.int .i64 x.k, .int .u64 x.cl.a, .int .u64 x.cl.b, .int .u64 x.cl.c, .int .u64 x.cl.d, .slice ko kn kc, .int .i64 x.mn, .int .i64 x.mx], .int .i64 48] W2 (fun e w' => e = .returned (.bool A) ∧ Below W2.heap.size W2 w')) := by
    rw [hA]
    exact rright_any 48 e (by omega) x _ W2 (rxR_steady e _ _ _ _ _ _ h b2 b2.size)
  rw [← hA]
  have c0 := boxc x2 0 _ rfl
  have c1 := boxc x2 1 _ rfl
  have c2 := boxc x2 2 _ rfl
  have c3 := boxc x2 3 _ rfl
  have c4 := boxc x2 4 _ rfl
  have c5 := boxc x2 5 _ rfl
  have c6 := boxc x2 6 _ rfl
  have c7 := boxc x2 7 _ rfl
  rw [hW2] at c0 c1 c2 c3 c4 c5 c6 c7
  have B2 := Lib.hid b2
  have HW2 := Lib.hid hW2
  clear h b2 x2 hW2 hA
  go_enter Try.func18, Try.ntmps18
  go_wp2_with fail
  rw [← HW2.out]
  (with_reducible refine H.out.mono ?_)
  rintro e1 w1 ⟨rfl, b1⟩
  have B5 := Lib.hid (B2.out.trans (b1.mono B2.out.size))
  clear b1 c0 c1 c2 c3 c4 c5 c6 c7
  go_wp2
  go_ret
  exact ⟨rfl, B5.out⟩
end Go.Proofs.Ytbccejlemhgioaa
