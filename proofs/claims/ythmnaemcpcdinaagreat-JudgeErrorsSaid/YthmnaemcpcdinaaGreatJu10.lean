/- texts put together: MdOne, MdSch. -/
import Derived.Test.YthmnaemcpcdinaaGreatJu09
namespace Go.Proofs.YthmnaemcpcdinaaGreat
open Go Go.RowKit Go.ChangeShapes cl Go.Sort
theorem live_one (x : Fct) (v : Value) (w : World) (hl : Fcts w w.heap.size v [x]) (hwf : FWf x) (h1 : x.kd = 1) (hv : valid x.d = true) :
  Calls Tryz.prog 14 #[v] w fun e w' => ∃ u, e = .returned u ∧ Cells w' w'.heap.size u 1 4 (lcell ⟨x.s, x.d, x.t⟩) ∧ Below w.heap.size w w' := by
 refine (live_any [x] v w hl (by intro f hf; rw [List.mem_singleton.1 hf]; exact hwf) (by simp)).mono ?_
 rintro e w' ⟨u, L, rfl, hp, _, ho, hb⟩
 have hk : keepF (goneF [x]) [x] = [⟨x.s, x.d, x.t⟩] := by
  have hg : goneF [x] = [] := by simp [goneF, h1]
  rw [hg]
  simp [keepF, keepS, keepB, h1, hv]
 rw [hk] at hp
 obtain rfl := List.perm_singleton.1 hp
 exact ⟨u, rfl, Cells.own ho, hb⟩
theorem oneAt_own {B : Nat} {w : World} {g cap : Nat} {s : ByteArray} (h : w.ownsRow B 9 1 (.slice (some ⟨g, 0, none⟩) 1 cap) 1 [.string s]) : OneAt w (.slice (some ⟨g, 0, none⟩) 1 cap) s := by
 have k0 : w.cell? ⟨g, 0, none⟩ = some (.string s) := by
  have := h.cells (g := g) rfl 0 (.string s) rfl
  rw [Addr.add_lit] at this
  simpa using this
 exact ⟨g, cap, rfl, World.block_lt_of_cell? _ _ k0, k0⟩
theorem expect_at (y : Lv) (hy : y.s = sA) (w : World) (hm : MX w) : ∀ W u, Below w.heap.size w W → Cells W W.heap.size u 1 4 (lcell y) → Calls Tryz.prog 13 #[u, .slice none 0 0] W fun e w' => ∃ u', e = .returned u' ∧ OneAt w' u' y.s ∧ Below W.heap.size W w' := fun W u hW hc => by
 refine (expect_one y u W hc (fun W2 hW2 => by rw [hy]; exact parse_sA W2 ((hm.next hW).next hW2))).mono ?_
 rintro e w' ⟨g, cap, rfl, ho, hb⟩
 exact ⟨_, rfl, oneAt_own ho, hb⟩
theorem equal_yes (s : ByteArray) (lb0 lc : Nat) (w : World) (hk : w.cell? ⟨lb0, 0, none⟩ = some (.string s)) : ∀ W u, Below w.heap.size w W → OneAt W u s → Calls Tryz.prog 25 #[.slice (some ⟨lb0, 0, none⟩) 1 lc, u] W (Said true W) := by
 rintro W u hW ⟨g, cap, rfl, h1, h2⟩
 have k0 := (hW.cell (p := ⟨lb0, 0, none⟩) (World.block_lt_of_cell? _ _ hk)).trans hk
 refine (Tryz.slices_Equal_string lb0 0 1 lc g 0 1 cap [s] [s] W (by simp) (by simp) (by omega) (by omega) (fun j hj => by
  have hj0 : j = 0 := by simpa using hj
  subst hj0; simpa using k0) (fun j hj => by
  have hj0 : j = 0 := by simpa using hj
  subst hj0; simpa using h2)).mono ?_
 rintro e w' ⟨rfl, q, rfl⟩
 exact ⟨by simp, below_drewN (Below.refl _ _) q⟩
theorem equal_no (s : ByteArray) (w : World) : ∀ W u, Below w.heap.size w W → OneAt W u s → Calls Tryz.prog 25 #[.slice none 0 0, u] W (Said false W) := by
 rintro W u _ ⟨g, cap, rfl, _, _⟩
 refine (Tryz.slices_Equal_string_lens none (some ⟨g, 0, none⟩) 0 0 1 cap W (by omega)).mono ?_
 rintro e w' ⟨rfl, rfl⟩
 exact ⟨rfl, Below.refl _ _⟩
section
variable (x : Fct) (v : Value) (s0 : ByteArray) (d0 : Dot) (t0 : Int) (w : World) (hl : Fcts w w.heap.size v [x]) (hwf : FWf x) (h1 : x.kd = 1) (hv : valid x.d = true) (hs : x.s = sA) (hm : MX w)
include hl h1 hs
theorem fit_may : Calls Tryz.prog 11 #[v, .agg #[.int .i64 3, .string s0, .int .i64 d0.1, .int .i64 d0.2, .int .i64 t0, .slice none 0 0, .slice none 0 0, .int .i64 0, .bool false]] w (Said true w) :=
 fits_may v s0 d0 t0 none 0 0 w fun W hW => added_none x v s0 d0 t0 0 false W (RowsAt.next fct_steady hl hW) h1 (by rw [hs]; unfold maxLen; decide)
include hwf hv hm
theorem fit_no : Calls Tryz.prog 11 #[v, .agg #[.int .i64 3, .string s0, .int .i64 d0.1, .int .i64 d0.2, .int .i64 t0, .slice none 0 0, .slice none 0 0, .int .i64 0, .bool true]] w (Said false w) :=
 fits_no v s0 d0 t0 none 0 0 w (fun W hW => added_none x v s0 d0 t0 0 true W (RowsAt.next fct_steady hl hW) h1 (by rw [hs]; unfold maxLen; decide)) ⟨x.s, x.d, x.t⟩
  (fun W hW => live_one x v W (RowsAt.next fct_steady hl hW) hwf h1 hv) (expect_at _ hs w hm) (equal_no _ w)
theorem fit_yes (lb0 lc : Nat) (hk : w.cell? ⟨lb0, 0, none⟩ = some (.string sA)) : Calls Tryz.prog 11 #[v, .agg #[.int .i64 3, .string s0, .int .i64 d0.1, .int .i64 d0.2, .int .i64 t0, .slice none 0 0, .slice (some ⟨lb0, 0, none⟩) 1 lc, .int .i64 0, .bool true]] w (Said true w) :=
 fits_yes v s0 d0 t0 (some ⟨lb0, 0, none⟩) 1 lc w (fun W hW => added_this x v s0 d0 t0 0 true lb0 lc W (RowsAt.next fct_steady hl hW) h1 (by rw [hs]; unfold maxLen; decide) ⟨Nat.lt_of_lt_of_le (World.block_lt_of_cell? _ _ hk) hW.size, by rw [hs]; exact (hW.cell (p := ⟨lb0, 0, none⟩) (World.block_lt_of_cell? _ _ hk)).trans hk⟩
   (fun W2 hW2 => by rw [hs]; exact parse_sA W2 ((hm.next hW).next hW2))) ⟨x.s, x.d, x.t⟩
  (fun W hW => live_one x v W (RowsAt.next fct_steady hl hW) hwf h1 hv) (expect_at _ hs w hm) (equal_yes _ lb0 lc w (by show _ = some (Value.string x.s); rw [hs]; exact hk))
end
set_option maxHeartbeats 800000 in
set_option maxRecDepth 100000 in
theorem right_add (v : Value) (s : ByteArray) (d : Dot) (t er : Int) (ma la : Option Addr) (mn mc ln lc : Nat) (st : Bool) (w : World) :
  Calls Tryz.prog 22 #[v, .agg #[.int .i64 1, .string s, .int .i64 d.1, .int .i64 d.2, .int .i64 t, .slice ma mn mc, .slice la ln lc, .int .i64 er, .bool st]] w (Said true w) := by
 go_enter Tryz.func22, Tryz.ntmps22
 go_wp2
 go_ret
 exact ⟨rfl, below1⟩
set_option maxHeartbeats 800000 in
set_option maxRecDepth 100000 in
theorem right_ans (v : Value) (s : ByteArray) (d : Dot) (t er : Int) (ma la : Option Addr) (mn mc ln lc : Nat) (st r : Bool) (w : World)
  (hf : ∀ W, Below w.heap.size w W → Calls Tryz.prog 11 #[v, .agg #[.int .i64 3, .string s, .int .i64 d.1, .int .i64 d.2, .int .i64 t, .slice ma mn mc, .slice la ln lc, .int .i64 er, .bool st]] W (Said r W)) :
  Calls Tryz.prog 22 #[v, .agg #[.int .i64 3, .string s, .int .i64 d.1, .int .i64 d.2, .int .i64 t, .slice ma mn mc, .slice la ln lc, .int .i64 er, .bool st]] w (Said r w) := by
 have HF := Lib.hid (hf _ (below1 (o := .cells #[.int .i64 3, .string s, .int .i64 d.1, .int .i64 d.2, .int .i64 t, .slice ma mn mc, .slice la ln lc, .int .i64 er, .bool st] 29)))
 have HB := Lib.hid (below1 (w := w) (o := .cells #[.int .i64 3, .string s, .int .i64 d.1, .int .i64 d.2, .int .i64 t, .slice ma mn mc, .slice la ln lc, .int .i64 er, .bool st] 29))
 clear hf
 go_enter Tryz.func22, Tryz.ntmps22
 go_wp2_with fail
 (with_reducible refine HF.out.mono ?_)
 rintro e w1 ⟨rfl, hb⟩
 have HB1 := Lib.hid (HB.out.trans (hb.mono HB.out.size))
 clear hb
 go_wp2
 go_ret
 exact ⟨rfl, HB1.out⟩
end Go.Proofs.YthmnaemcpcdinaaGreat
namespace Go.Proofs.YthmnaemcpcdinaaGreat
open Go Go.RowKit Go.ChangeShapes cl Go.Sort
set_option maxHeartbeats 800000 in
set_option maxRecDepth 100000 in
theorem closure_one (b g : Nat) (w : World) (hc : w.cell? ⟨b, 0, none⟩ = some (.slice (some ⟨g, 0, none⟩) 2 2))
  (hd : Calls Tryz.prog 21 #[.slice (some ⟨g, 0, none⟩) 2 2] w (Said true w)) :
  Calls Tryz.prog 20 #[.int .i64 1, .pointer (some ⟨b, 0, none⟩)] w (Said false w) := by
 have HD := Lib.hid hd
 clear hd
 go_enter Tryz.func20, Tryz.ntmps20
 go_wp2_with fail
 (with_reducible refine HD.out.mono ?_)
 rintro e w1 ⟨rfl, hb⟩
 have HB := Lib.hid hb
 clear hb
 go_wp2
 go_ret
 exact ⟨rfl, HB.out⟩
set_option maxHeartbeats 800000 in
set_option maxRecDepth 100000 in
theorem search_two (b g : Nat) (w : World) (hc : w.cell? ⟨b, 0, none⟩ = some (.slice (some ⟨g, 0, none⟩) 2 2))
  (hd : Calls Tryz.prog 21 #[.slice (some ⟨g, 0, none⟩) 2 2] w (Said true w)) :
  Calls Tryz.prog 19 #[.int .i64 2, .func (.func 20) #[] #[.pointer (some ⟨b, 0, none⟩)]] w fun e w' => e = .returned (.int .i64 2) ∧ Below w.heap.size w w' := by
 have HC := Lib.hid (closure_one b g w hc hd)
 clear hd
 go_enter Tryz.func19, Tryz.ntmps19
 go_wp2
 refine wp_loop_rounds 2 ?_
 rw [rounds_succ]
 go_wp2_with fail
 trace_state
 (with_reducible refine HC.out.mono ?_)
 rintro e w1 ⟨rfl, hb⟩
 have HB := Lib.hid hb
 clear hb
 go_wp2
 rw [rounds_succ]
 go_wp2
 go_ret
 exact ⟨rfl, HB.out⟩
end Go.Proofs.YthmnaemcpcdinaaGreat
