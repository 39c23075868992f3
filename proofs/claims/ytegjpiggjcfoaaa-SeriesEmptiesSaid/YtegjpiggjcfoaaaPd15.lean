/- texts put together: SerAwk. -/
import Derived.Test.YtegjpiggjcfoaaaPd13
import Derived.Test.YtegjpiggjcfoaaaPd14
namespace Go.Proofs.Ytegjpiggjcfoaaa
open Go Go.RowKit Go.ChangeShapes cl Go.Sort
theorem names_cell {W : World} {B b : Nat} (h : Strs W B (.slice (some ⟨b, 0, none⟩) 7 7) NM) (k : Nat) (hk : k < 7) : W.cell? ⟨b, k, none⟩ = some (.string (nam k)) := by
 obtain ⟨_, ao, c, e, _, _, h4⟩ := h
 simp only [Value.slice.injEq] at e
 obtain ⟨b', off, e2, _, hc⟩ := h4 (by decide)
 rw [e2] at e
 simp only [Option.some.injEq, Addr.mk.injEq] at e
 obtain ⟨⟨rfl, rfl, _⟩, _⟩ := e
 have h1 := hc k (.string (nam k)) (by
  rcases (by omega : k = 0 ∨ k = 1 ∨ k = 2 ∨ k = 3 ∨ k = 4 ∨ k = 5 ∨ k = 6) with rfl | rfl | rfl | rfl | rfl | rfl | rfl <;> rfl)
 rwa [Nat.zero_add] at h1
theorem names_lt {W : World} {B b : Nat} (h : Strs W B (.slice (some ⟨b, 0, none⟩) 7 7) NM) : b < B := by
 obtain ⟨_, ao, c, e, _, _, h4⟩ := h
 simp only [Value.slice.injEq] at e
 obtain ⟨b', off, e2, hB, hc⟩ := h4 (by decide)
 rw [e2] at e
 simp only [Option.some.injEq, Addr.mk.injEq] at e
 obtain ⟨⟨rfl, rfl, _⟩, _⟩ := e
 exact hB
abbrev BA : ByteArray := ⟨#[97]⟩
abbrev BB : ByteArray := ⟨#[98]⟩
abbrev B1' : ByteArray := ⟨#[49]⟩
abbrev B2' : ByteArray := ⟨#[50]⟩
def AS1 : List tb.Sym := [(BA, 1), (B1', 1)]
def AR1 : List se.Row := [(nlab 0, 1)]
def AS2 : List tb.Sym := [(BA, 2), (B1', 2), (BB, 1), (B2', 1)]
def AR2 : List se.Row := [(nlab 0, 1), (nlab 3, 1)]
def AS3 : List tb.Sym := [(BA, 1), (B1', 1), (BB, 1), (B2', 1)]
def AR3 : List se.Row := [([], 0), (nlab 3, 1)]
theorem aw1 : se.put [] [] (nres 0) = (AS1, AR1, 0, 0) := by decide +kernel
theorem aw2 : se.put AS1 AR1 (nres 3) = (AS2, AR2, 1, 0) := by decide +kernel
theorem aw3 : se.drop AS2 AR2 0 = (AS3, AR3, 0) := by decide +kernel
theorem aw4 : fnd AR3 (nres 0) = (0, false) := by decide +kernel
theorem aw5 : se.used AR2 1 = true := by decide +kernel
theorem aok1 : se.Ok AS1 AR1 := by
 have h := se.ok_put (r := nres 0) se.ok_nil (nres_canon 0)
 rw [aw1] at h; exact h
theorem aok2 : se.Ok AS2 AR2 := by
 have h := se.ok_put (r := nres 3) aok1 (nres_canon 3)
 rw [aw2] at h; exact h
theorem aok3 : se.Ok AS3 AR3 := by
 have h := se.ok_drop (id := 0) aok2
 rw [aw3] at h; exact h
theorem nil_ser (W : World) : SerAt W W.heap.size (.slice none 0 0) (.slice none 0 0) [] [] := ⟨Cells.nil _ _ _, [], rfl, (fun j c x hc => by cases hc), Cells.nil _ _ _⟩
theorem nil_rb (W : World) : RB W (.slice none 0 0) := fun b off s n c e => by simp at e
theorem nam_max (k : Nat) : (nam k).size ≤ maxLen := by
 have := nam_size k
 unfold maxLen; omega
set_option maxHeartbeats 3200000 in
set_option maxRecDepth 100000 in
theorem awake_any (w : World) (hm : MX w) : Calls Try.prog 7 #[] w (Said true w) := by
 have HNM : Hid (∀ W, Calls Try.prog 9 #[] W fun e w' => ∃ b, e = .returned (.slice (some ⟨b, 0, none⟩) 7 7) ∧ Strs w' w'.heap.size (.slice (some ⟨b, 0, none⟩) 7 7) NM ∧ Below W.heap.size W w') := names_any
 have HNEW : Hid (∀ W, Calls Try.prog 15 #[] W fun e w' => e = .returned (tval (.slice none 0 0) (.slice none 0 0)) ∧ Below W.heap.size W w') := snew_any
 have P1 : Hid (∀ W, Below w.heap.size w W → Calls Try.prog 14 #[tval (.slice none 0 0) (.slice none 0 0), .string (nam 0)] W (fun e w' => ∃ vs' vr', e = .returned (.tuple #[tval vs' vr', .int .i64 0, .int .i64 0]) ∧ SerAt w' w'.heap.size vs' vr' AS1 AR1 ∧ Below W.heap.size W w' ∧ (RB W (.slice none 0 0) → RB w' vr'))) := fun W hW => by
  have h := sput_any (nam 0) (nres 0) [] [] _ _ W (nam_is 0 (by decide)) (nam_max 0) (hm.next hW) se.ok_nil (nil_ser W) (nres_canon 0)
  rw [aw1] at h; exact h
 have P2 : Hid (∀ vs vr W, Below w.heap.size w W → SerAt W W.heap.size vs vr AS1 AR1 → Calls Try.prog 14 #[tval vs vr, .string (nam 3)] W (fun e w' => ∃ vs' vr', e = .returned (.tuple #[tval vs' vr', .int .i64 1, .int .i64 0]) ∧ SerAt w' w'.heap.size vs' vr' AS2 AR2 ∧ Below W.heap.size W w' ∧ (RB W vr → RB w' vr'))) := fun vs vr W hW h0 => by
  have h := sput_any (nam 3) (nres 3) AS1 AR1 vs vr W (nam_is 3 (by decide)) (nam_max 3) (hm.next hW) aok1 h0 (nres_canon 3)
  rw [aw2] at h; exact h
 have LB : Hid (∀ vs vr W, SerAt W W.heap.size vs vr AS2 AR2 → Calls Try.prog 12 #[tval vs vr, .int .i64 1] W (fun e w' => ∃ v, e = .returned (.tuple #[v, .bool true]) ∧ Labs w' w'.heap.size v (nlab 3) ∧ Below W.heap.size W w')) := fun vs vr W h0 => by
  have h := slabels_any 1 AS2 AR2 vs vr W aok2 h0
  unfold LabsP at h
  rw [aw5, if_pos rfl] at h; exact h
 have DR : Hid (∀ vs vr W, SerAt W W.heap.size vs vr AS2 AR2 → Calls Try.prog 13 #[tval vs vr, .int .i64 0] W (fun e w' => ∃ vs' vr', e = .returned (.tuple #[tval vs' vr', .int .i64 0]) ∧ SerAt w' w'.heap.size vs' vr' AS3 AR3 ∧ Below W.heap.size W w' ∧ (RB W vr → RB w' vr'))) := fun vs vr W h0 => by
  have h := sdrop_any 0 AS2 AR2 vs vr W aok2 h0
  rw [aw3] at h; exact h
 have FI : Hid (∀ vs vr W, Below w.heap.size w W → SerAt W W.heap.size vs vr AS3 AR3 → Calls Try.prog 10 #[tval vs vr, .string (nam 0)] W (fun e w' => e = .returned (.tuple #[.int .i64 0, .bool false]) ∧ Below W.heap.size W w')) := fun vs vr W hW h0 => by
  have h := sfind_any (nam 0) (nres 0) AS3 AR3 vs vr W (nam_is 0 (by decide)) (nam_max 0) (hm.next hW) aok3 h0
  unfold SFindP at h
  rw [aw4] at h; exact h
 have RT : Hid (∀ vs vr W, SerAt W W.heap.size vs vr AS3 AR3 → Calls Try.prog 8 #[tval vs vr] W (Said true W)) := fun vs vr W h0 => sright_any AS3 AR3 vs vr W aok3 h0
 clear hm
 go_enter Try.func7, Try.ntmps7
 go_wp2_with fail
 (with_reducible refine (HNEW.out _).mono ?_)
 rintro e w1 ⟨rfl, hb1⟩
 go_wp2_with fail
 (with_reducible refine (HNM.out _).mono ?_)
 rintro e w2 ⟨nb, rfl, hn2, hb2⟩
 have hbw2 := hb1.trans (hb2.mono hb1.size)
 have c0 := names_cell hn2 0 (by decide)
 have HP1 := Lib.hid (P1.out w2 hbw2)
 clear hn2 hb1 hb2
 go_wp2_with fail
 (with_reducible refine HP1.out.mono ?_)
 rintro e wa ⟨vs1, vr1, rfl, hs1, hb3, hr1⟩
 have hbwa := hbw2.trans (hb3.mono hbw2.size)
 have HT1 := Lib.hid (Tv.start aok1 hs1 (hr1 (nil_rb _)) hbwa)
 obtain ⟨x1, y1, z1, x2, y2, z2, rfl, rfl⟩ := hs1.vals
 obtain ⟨WA, hWA⟩ : ∃ W, W = wa.alloc (.cells #[.slice x1 y1 z1, .int .i64 24000, .slice x2 y2 z2] 28) := ⟨_, rfl⟩
 rw [← hWA] at HT1
 have HWA := Lib.hid hWA
 obtain ⟨B, hB⟩ : ∃ B, B = wa.heap.size := ⟨_, rfl⟩
 have HB := Lib.hid hB
 rw [← hB] at HT1
 have HBL : Hid (w.heap.size ≤ B) := HT1.out.low
 have HT := HT1
 clear hWA hB hs1 hr1 c0 hb3
 go_wp2
 rw [← HWA.out, ← HB.out]
 refine wp_flowG 12 (fun kF => match kF with | 1 => 2 | 2 => 3 | 4 => 5 | 6 => 9 | _ => 1000) (fun ww => RowKit.Below w.heap.size w ww) (fun i w w' => if i = 9 then (fun (w w' : World) => ∃ x y z, w' = ((w.setCell ⟨B, 0, none⟩ x).setCell ⟨B, 1, none⟩ y).setCell ⟨B, 2, none⟩ z ∧ ∃ a1 n1 c1 zz a2 n2 c2, w.heap[B]? = some (.cells #[.slice a1 n1 c1, .int .i64 zz, .slice a2 n2 c2] 28 (0, 0))) w w' else (fun (w w' : World) => RowKit.Below w.heap.size w w') w w') (fun sF wF => match sF with | 9 => (Tv w B AS1 AR1 (.slice x1 y1 z1) (.slice x2 y2 z2) wF) | _ => True) (fun kF vF wF => match kF with | 0 => (vF = tval (.slice x1 y1 z1) (.slice x2 y2 z2)) | 1 => (∃ b, vF = .slice (some ⟨b, 0, none⟩) 7 7 ∧ Strs wF wF.heap.size (.slice (some ⟨b, 0, none⟩) 7 7) NM) | 2 => (∃ b, vF = .pointer (some ⟨b, 3, none⟩) ∧ wF.cell? ⟨b, 3, none⟩ = some (.string (nam (3))) ∧ b < wF.heap.size) | 3 => (vF = .string (nam 3)) | 4 => (∃ vs' vr', vF = .tuple #[tval vs' vr', .int .i64 1, .int .i64 0] ∧ SerAt wF wF.heap.size vs' vr' AS2 AR2 ∧ RB wF vr') | 5 => (∃ vs' vr', vF = .tuple #[tval vs' vr', .int .i64 1, .int .i64 0] ∧ SerAt wF wF.heap.size vs' vr' AS2 AR2 ∧ RB wF vr') | 6 => (∃ vs' vr', vF = tval vs' vr' ∧ SerAt wF wF.heap.size vs' vr' AS2 AR2 ∧ RB wF vr') | 7 => (vF = .int .i64 1) | 8 => (vF = .int .i64 0) | 9 => (∃ vs' vr', Tv w B AS2 AR2 vs' vr' wF) | 10 => (vF = .int .i64 1) | 11 => (vF = .int .i64 0) | _ => True) (fun _ _ _ _ => True) (by kernel_rfl) (by kernel_rfl) ?_ ?_ ?_ ?_ ?_ ?_ ?_
 ·
  exact HT1.out.below.drew
 ·
  intro sF hsF
  rcases (by omega : sF = 0 ∨ sF = 1 ∨ sF = 2 ∨ sF = 3 ∨ sF = 4 ∨ sF = 5 ∨ sF = 6 ∨ sF = 7 ∨ sF = 8 ∨ sF = 9 ∨ sF = 10 ∨ sF = 11) with rfl | rfl | rfl | rfl | rfl | rfl | rfl | rfl | rfl | rfl | rfl | rfl
  ·
   exact trivial
  ·
   exact trivial
  ·
   exact trivial
  ·
   exact trivial
  ·
   exact trivial
  ·
   exact trivial
  ·
   exact trivial
  ·
   exact trivial
  ·
   exact trivial
  ·
   exact HT1.out.step ((Below.refl _ _).drew)
  ·
   exact trivial
  ·
   exact trivial
 ·
  intro iF wF1 wF2 hR hT
  have hT : (fun i w w' => if i = 9 then (fun (w w' : World) => ∃ x y z, w' = ((w.setCell ⟨B, 0, none⟩ x).setCell ⟨B, 1, none⟩ y).setCell ⟨B, 2, none⟩ z ∧ ∃ a1 n1 c1 zz a2 n2 c2, w.heap[B]? = some (.cells #[.slice a1 n1 c1, .int .i64 zz, .slice a2 n2 c2] 28 (0, 0))) w w' else (fun (w w' : World) => RowKit.Below w.heap.size w w') w w') iF wF1 wF2 := hT
  simp only at hT
  by_cases hi9 : iF = 9
  ·
   rw [if_pos hi9] at hT; (obtain ⟨x, y, z, rfl, _⟩ := hT; exact ((hR.setCell HBL.out _).setCell HBL.out _).setCell HBL.out _)
  rw [if_neg hi9] at hT
  exact hR.trans (hT.mono hR.size)
 ·
  intro sF hsF iF hiF hne hanc wF1 wF2 hRF hgF hT
  rcases (by omega : sF = 0 ∨ sF = 1 ∨ sF = 2 ∨ sF = 3 ∨ sF = 4 ∨ sF = 5 ∨ sF = 6 ∨ sF = 7 ∨ sF = 8 ∨ sF = 9 ∨ sF = 10 ∨ sF = 11) with rfl | rfl | rfl | rfl | rfl | rfl | rfl | rfl | rfl | rfl | rfl | rfl
  ·
   exact trivial
  ·
   exact trivial
  ·
   exact trivial
  ·
   exact trivial
  ·
   exact trivial
  ·
   exact trivial
  ·
   exact trivial
  ·
   exact trivial
  ·
   exact trivial
  ·
   have hg : (Tv w B AS1 AR1 (.slice x1 y1 z1) (.slice x2 y2 z2) wF1) := hgF
   show (Tv w B AS1 AR1 (.slice x1 y1 z1) (.slice x2 y2 z2) wF2)
   have hT : (fun i w w' => if i = 9 then (fun (w w' : World) => ∃ x y z, w' = ((w.setCell ⟨B, 0, none⟩ x).setCell ⟨B, 1, none⟩ y).setCell ⟨B, 2, none⟩ z ∧ ∃ a1 n1 c1 zz a2 n2 c2, w.heap[B]? = some (.cells #[.slice a1 n1 c1, .int .i64 zz, .slice a2 n2 c2] 28 (0, 0))) w w' else (fun (w w' : World) => RowKit.Below w.heap.size w w') w w') iF wF1 wF2 := hT
   simp only at hT
   by_cases hi9 : iF = 9
   ·
    exact absurd hi9.symm hne
   rw [if_neg hi9] at hT
   exact hg.step hT
  ·
   exact trivial
  ·
   exact trivial
 ·
  intro kF hkF iF hiF hne hdd hanc hdan vF wF1 wF2 h hT
  rcases (by omega : kF = 0 ∨ kF = 1 ∨ kF = 2 ∨ kF = 3 ∨ kF = 4 ∨ kF = 5 ∨ kF = 6 ∨ kF = 7 ∨ kF = 8 ∨ kF = 9 ∨ kF = 10 ∨ kF = 11) with rfl | rfl | rfl | rfl | rfl | rfl | rfl | rfl | rfl | rfl | rfl | rfl
  ·
   exact h
  ·
   have h : (∃ b, vF = .slice (some ⟨b, 0, none⟩) 7 7 ∧ Strs wF1 wF1.heap.size (.slice (some ⟨b, 0, none⟩) 7 7) NM) := h
   show (∃ b, vF = .slice (some ⟨b, 0, none⟩) 7 7 ∧ Strs wF2 wF2.heap.size (.slice (some ⟨b, 0, none⟩) 7 7) NM)
   have hT : (fun i w w' => if i = 9 then (fun (w w' : World) => ∃ x y z, w' = ((w.setCell ⟨B, 0, none⟩ x).setCell ⟨B, 1, none⟩ y).setCell ⟨B, 2, none⟩ z ∧ ∃ a1 n1 c1 zz a2 n2 c2, w.heap[B]? = some (.cells #[.slice a1 n1 c1, .int .i64 zz, .slice a2 n2 c2] 28 (0, 0))) w w' else (fun (w w' : World) => RowKit.Below w.heap.size w w') w w') iF wF1 wF2 := hT
   simp only at hT
   by_cases hi9 : iF = 9
   ·
    subst hi9; exact (anc_no hdan (by kernel_rfl)).elim
   rw [if_neg hi9] at hT
   obtain ⟨b, e, h1⟩ := h
   exact ⟨b, e, Cells.next h1 hT⟩
  ·
   have h : (∃ b, vF = .pointer (some ⟨b, 3, none⟩) ∧ wF1.cell? ⟨b, 3, none⟩ = some (.string (nam (3))) ∧ b < wF1.heap.size) := h
   show (∃ b, vF = .pointer (some ⟨b, 3, none⟩) ∧ wF2.cell? ⟨b, 3, none⟩ = some (.string (nam (3))) ∧ b < wF2.heap.size)
   have hT : (fun i w w' => if i = 9 then (fun (w w' : World) => ∃ x y z, w' = ((w.setCell ⟨B, 0, none⟩ x).setCell ⟨B, 1, none⟩ y).setCell ⟨B, 2, none⟩ z ∧ ∃ a1 n1 c1 zz a2 n2 c2, w.heap[B]? = some (.cells #[.slice a1 n1 c1, .int .i64 zz, .slice a2 n2 c2] 28 (0, 0))) w w' else (fun (w w' : World) => RowKit.Below w.heap.size w w') w w') iF wF1 wF2 := hT
   simp only at hT
   by_cases hi9 : iF = 9
   ·
    subst hi9; exact (anc_no hdan (by kernel_rfl)).elim
   rw [if_neg hi9] at hT
   obtain ⟨b, e, h1, h2⟩ := h
   exact ⟨b, e, (hT.cell (p := ⟨b, 3, none⟩) h2).trans h1, Nat.lt_of_lt_of_le h2 hT.size⟩
  ·
   exact h
  ·
   have h : (∃ vs' vr', vF = .tuple #[tval vs' vr', .int .i64 1, .int .i64 0] ∧ SerAt wF1 wF1.heap.size vs' vr' AS2 AR2 ∧ RB wF1 vr') := h
   show (∃ vs' vr', vF = .tuple #[tval vs' vr', .int .i64 1, .int .i64 0] ∧ SerAt wF2 wF2.heap.size vs' vr' AS2 AR2 ∧ RB wF2 vr')
   have hT : (fun i w w' => if i = 9 then (fun (w w' : World) => ∃ x y z, w' = ((w.setCell ⟨B, 0, none⟩ x).setCell ⟨B, 1, none⟩ y).setCell ⟨B, 2, none⟩ z ∧ ∃ a1 n1 c1 zz a2 n2 c2, w.heap[B]? = some (.cells #[.slice a1 n1 c1, .int .i64 zz, .slice a2 n2 c2] 28 (0, 0))) w w' else (fun (w w' : World) => RowKit.Below w.heap.size w w') w w') iF wF1 wF2 := hT
   simp only at hT
   by_cases hi9 : iF = 9
   ·
    subst hi9; exact (anc_no hdan (by kernel_rfl)).elim
   rw [if_neg hi9] at hT
   obtain ⟨vs', vr', e, h1, h2⟩ := h
   exact ⟨vs', vr', e, h1.next hT, h2.next hT⟩
  ·
   have h : (∃ vs' vr', vF = .tuple #[tval vs' vr', .int .i64 1, .int .i64 0] ∧ SerAt wF1 wF1.heap.size vs' vr' AS2 AR2 ∧ RB wF1 vr') := h
   show (∃ vs' vr', vF = .tuple #[tval vs' vr', .int .i64 1, .int .i64 0] ∧ SerAt wF2 wF2.heap.size vs' vr' AS2 AR2 ∧ RB wF2 vr')
   have hT : (fun i w w' => if i = 9 then (fun (w w' : World) => ∃ x y z, w' = ((w.setCell ⟨B, 0, none⟩ x).setCell ⟨B, 1, none⟩ y).setCell ⟨B, 2, none⟩ z ∧ ∃ a1 n1 c1 zz a2 n2 c2, w.heap[B]? = some (.cells #[.slice a1 n1 c1, .int .i64 zz, .slice a2 n2 c2] 28 (0, 0))) w w' else (fun (w w' : World) => RowKit.Below w.heap.size w w') w w') iF wF1 wF2 := hT
   simp only at hT
   by_cases hi9 : iF = 9
   ·
    rw [if_pos hi9] at hT
    obtain ⟨vs', vr', e, h1, h2⟩ := h
    obtain ⟨xx, yy, zz, rfl, _, _, _, _, _, _, _, hrow⟩ := hT
    exact ⟨vs', vr', e, ser_off h1 h2 hrow (by rw [set3_size]; exact Nat.le_refl _) (fun b _ hb => set3_far hb.symm), rb_off h2 hrow (fun b _ hb => set3_far hb.symm)⟩
   rw [if_neg hi9] at hT
   obtain ⟨vs', vr', e, h1, h2⟩ := h
   exact ⟨vs', vr', e, h1.next hT, h2.next hT⟩
  ·
   have h : (∃ vs' vr', vF = tval vs' vr' ∧ SerAt wF1 wF1.heap.size vs' vr' AS2 AR2 ∧ RB wF1 vr') := h
   show (∃ vs' vr', vF = tval vs' vr' ∧ SerAt wF2 wF2.heap.size vs' vr' AS2 AR2 ∧ RB wF2 vr')
   have hT : (fun i w w' => if i = 9 then (fun (w w' : World) => ∃ x y z, w' = ((w.setCell ⟨B, 0, none⟩ x).setCell ⟨B, 1, none⟩ y).setCell ⟨B, 2, none⟩ z ∧ ∃ a1 n1 c1 zz a2 n2 c2, w.heap[B]? = some (.cells #[.slice a1 n1 c1, .int .i64 zz, .slice a2 n2 c2] 28 (0, 0))) w w' else (fun (w w' : World) => RowKit.Below w.heap.size w w') w w') iF wF1 wF2 := hT
   simp only at hT
   by_cases hi9 : iF = 9
   ·
    exact absurd hi9.symm hdd
   rw [if_neg hi9] at hT
   obtain ⟨vs', vr', e, h1, h2⟩ := h
   exact ⟨vs', vr', e, h1.next hT, h2.next hT⟩
  ·
   exact h
  ·
   exact h
  ·
   have h : (∃ vs' vr', Tv w B AS2 AR2 vs' vr' wF1) := h
   show (∃ vs' vr', Tv w B AS2 AR2 vs' vr' wF2)
   have hT : (fun i w w' => if i = 9 then (fun (w w' : World) => ∃ x y z, w' = ((w.setCell ⟨B, 0, none⟩ x).setCell ⟨B, 1, none⟩ y).setCell ⟨B, 2, none⟩ z ∧ ∃ a1 n1 c1 zz a2 n2 c2, w.heap[B]? = some (.cells #[.slice a1 n1 c1, .int .i64 zz, .slice a2 n2 c2] 28 (0, 0))) w w' else (fun (w w' : World) => RowKit.Below w.heap.size w w') w w') iF wF1 wF2 := hT
   simp only at hT
   by_cases hi9 : iF = 9
   ·
    exact absurd hi9.symm hne
   rw [if_neg hi9] at hT
   obtain ⟨vs', vr', h1⟩ := h
   exact ⟨vs', vr', h1.step hT⟩
  ·
   exact h
  ·
   exact h
 ·
  generalize hAF : fillOf _ _ _ = AF
  replace hAF := fun x => congrFun hAF x
  simp only [List.take_succ_cons, List.take_zero, fillOf, Act.put, List.setIfInBounds_toArray, List.set_cons_zero, List.set_cons_succ, Nat.reduceAdd, Nat.zero_add] at hAF
  refine FlowAllG.cons ?_ ?_
  ·
   intro xF w3 hR hg hd K hK
   have gg9 : (Tv w B AS1 AR1 (.slice x1 y1 z1) (.slice x2 y2 z2) w3) := hg 9 (by omega) (by decide)
   clear hg
   clear hd
   simp only [← hAF, Act.put, List.setIfInBounds_toArray, List.set_cons_zero, List.set_cons_succ] at hK ⊢
   clear hAF
   try simp only [Nat.zero_add] at hK ⊢
   try simp only [Nat.reduceAdd] at hK ⊢
   obtain hbR := id hR
   obtain ⟨⟨k0, k1, k2⟩, _⟩ := gg9.cell
   rw [if_pos (by rfl)]
   go_simp
   exact hK.out _ _ (Below.refl _ _) (rfl) (fun _ _ _ => ⟨trivial, trivial⟩)
  refine FlowAllG.cons ?_ ?_
  ·
   intro xF w3 hR hg hd K hK
   clear hg
   clear hd
   simp only [← hAF, Act.put, List.setIfInBounds_toArray, List.set_cons_zero, List.set_cons_succ] at hK ⊢
   clear hAF
   try simp only [Nat.zero_add] at hK ⊢
   try simp only [Nat.reduceAdd] at hK ⊢
   obtain hbR := id hR
   rw [if_pos (by rfl)]
   go_simp
   (go_at_call 9; (with_reducible refine (HNM.out _).mono ?_); rintro e wK ⟨b, rfl, hs, hbK⟩)
   try go_wp2_with fail
   exact hK.out _ _ (hbK) (⟨_, rfl, hs⟩) (fun _ _ _ => ⟨trivial, trivial⟩)
  refine FlowAllG.cons ?_ ?_
  ·
   intro xF w3 hR hg hd K hK
   clear hg
   have dd1 : (∃ b, (xF 1) = .slice (some ⟨b, 0, none⟩) 7 7 ∧ Strs w3 w3.heap.size (.slice (some ⟨b, 0, none⟩) 7 7) NM) := hd 1 (by kernel_rfl)
   clear hd
   simp only [← hAF, Act.put, List.setIfInBounds_toArray, List.set_cons_zero, List.set_cons_succ] at hK ⊢
   clear hAF
   try simp only [Nat.zero_add] at hK ⊢
   try simp only [Nat.reduceAdd] at hK ⊢
   try generalize xF 1 = yy1 at *
   obtain ⟨nb1, rfl, hn1⟩ := dd1
   obtain hbR := id hR
   rw [if_pos (by rfl)]
   go_simp
   exact hK.out _ _ (Below.refl _ _) (⟨_, rfl, names_cell hn1 3 (by decide), names_lt hn1⟩) (fun _ _ _ => ⟨trivial, trivial⟩)
  refine FlowAllG.cons ?_ ?_
  ·
   intro xF w3 hR hg hd K hK
   clear hg
   have dd2 : (∃ b, (xF 2) = .pointer (some ⟨b, 3, none⟩) ∧ w3.cell? ⟨b, 3, none⟩ = some (.string (nam (3))) ∧ b < w3.heap.size) := hd 2 (by kernel_rfl)
   clear hd
   simp only [← hAF, Act.put, List.setIfInBounds_toArray, List.set_cons_zero, List.set_cons_succ] at hK ⊢
   clear hAF
   try simp only [Nat.zero_add] at hK ⊢
   try simp only [Nat.reduceAdd] at hK ⊢
   try generalize xF 2 = yy2 at *
   obtain ⟨nc2, rfl, hc2, hl2⟩ := dd2
   obtain hbR := id hR
   rw [if_pos (by rfl)]
   go_simp
   exact hK.out _ _ (Below.refl _ _) (rfl) (fun _ _ _ => ⟨trivial, trivial⟩)
  refine FlowAllG.cons ?_ ?_
  ·
   intro xF w3 hR hg hd K hK
   have gg9 : (Tv w B AS1 AR1 (.slice x1 y1 z1) (.slice x2 y2 z2) w3) := hg 9 (by omega) (by decide)
   clear hg
   have dd0 : ((xF 0) = tval (.slice x1 y1 z1) (.slice x2 y2 z2)) := hd 0 (by kernel_rfl)
   have dd3 : ((xF 3) = .string (nam 3)) := hd 3 (by kernel_rfl)
   clear hd
   simp only [← hAF, Act.put, List.setIfInBounds_toArray, List.set_cons_zero, List.set_cons_succ] at hK ⊢
   clear hAF
   try simp only [Nat.zero_add] at hK ⊢
   try simp only [Nat.reduceAdd] at hK ⊢
   try generalize xF 0 = yy0 at *
   try generalize xF 3 = yy3 at *
   obtain rfl := dd0
   obtain rfl := dd3
   obtain hbR := id hR
   rw [if_pos (by rfl)]
   go_simp
   (go_at_call 14; (with_reducible refine (P2.out _ _ _ gg9.below gg9.ser).mono ?_); rintro e wK ⟨vs', vr', rfl, hs', hbK, hr'⟩)
   try go_wp2_with fail
   exact hK.out _ _ (hbK) (⟨_, _, rfl, hs', hr' gg9.rb⟩) (fun _ _ _ => ⟨trivial, trivial⟩)
  refine FlowAllG.cons ?_ ?_
  ·
   intro xF w3 hR hg hd K hK
   clear hg
   have dd4 : (∃ vs' vr', (xF 4) = .tuple #[tval vs' vr', .int .i64 1, .int .i64 0] ∧ SerAt w3 w3.heap.size vs' vr' AS2 AR2 ∧ RB w3 vr') := hd 4 (by kernel_rfl)
   clear hd
   simp only [← hAF, Act.put, List.setIfInBounds_toArray, List.set_cons_zero, List.set_cons_succ] at hK ⊢
   clear hAF
   try simp only [Nat.zero_add] at hK ⊢
   try simp only [Nat.reduceAdd] at hK ⊢
   try generalize xF 4 = yy4 at *
   obtain ⟨vs4, vr4, rfl, hs4, hr4⟩ := dd4
   obtain hbR := id hR
   rw [if_pos (by rfl)]
   go_simp
   exact hK.out _ _ (Below.refl _ _) (⟨_, _, rfl, hs4, hr4⟩) (fun _ _ _ => ⟨trivial, trivial⟩)
  refine FlowAllG.cons ?_ ?_
  ·
   intro xF w3 hR hg hd K hK
   clear hg
   have dd5 : (∃ vs' vr', (xF 5) = .tuple #[tval vs' vr', .int .i64 1, .int .i64 0] ∧ SerAt w3 w3.heap.size vs' vr' AS2 AR2 ∧ RB w3 vr') := hd 5 (by kernel_rfl)
   clear hd
   simp only [← hAF, Act.put, List.setIfInBounds_toArray, List.set_cons_zero, List.set_cons_succ] at hK ⊢
   clear hAF
   try simp only [Nat.zero_add] at hK ⊢
   try simp only [Nat.reduceAdd] at hK ⊢
   try generalize xF 5 = yy5 at *
   obtain ⟨vs5, vr5, rfl, hs5, hr5⟩ := dd5
   obtain hbR := id hR
   rw [if_pos (by rfl)]
   go_simp
   exact hK.out _ _ (Below.refl _ _) (⟨_, _, rfl, hs5, hr5⟩) (fun _ _ _ => ⟨trivial, trivial⟩)
  refine FlowAllG.cons ?_ ?_
  ·
   intro xF w3 hR hg hd K hK
   clear hg
   have dd5 : (∃ vs' vr', (xF 5) = .tuple #[tval vs' vr', .int .i64 1, .int .i64 0] ∧ SerAt w3 w3.heap.size vs' vr' AS2 AR2 ∧ RB w3 vr') := hd 5 (by kernel_rfl)
   clear hd
   simp only [← hAF, Act.put, List.setIfInBounds_toArray, List.set_cons_zero, List.set_cons_succ] at hK ⊢
   clear hAF
   try simp only [Nat.zero_add] at hK ⊢
   try simp only [Nat.reduceAdd] at hK ⊢
   try generalize xF 5 = yy5 at *
   obtain ⟨vs5, vr5, rfl, hs5, hr5⟩ := dd5
   obtain hbR := id hR
   rw [if_pos (by rfl)]
   go_simp
   exact hK.out _ _ (Below.refl _ _) (rfl) (fun _ _ _ => ⟨trivial, trivial⟩)
  refine FlowAllG.cons ?_ ?_
  ·
   intro xF w3 hR hg hd K hK
   clear hg
   have dd5 : (∃ vs' vr', (xF 5) = .tuple #[tval vs' vr', .int .i64 1, .int .i64 0] ∧ SerAt w3 w3.heap.size vs' vr' AS2 AR2 ∧ RB w3 vr') := hd 5 (by kernel_rfl)
   clear hd
   simp only [← hAF, Act.put, List.setIfInBounds_toArray, List.set_cons_zero, List.set_cons_succ] at hK ⊢
   clear hAF
   try simp only [Nat.zero_add] at hK ⊢
   try simp only [Nat.reduceAdd] at hK ⊢
   try generalize xF 5 = yy5 at *
   obtain ⟨vs5, vr5, rfl, hs5, hr5⟩ := dd5
   obtain hbR := id hR
   rw [if_pos (by rfl)]
   go_simp
   exact hK.out _ _ (Below.refl _ _) (rfl) (fun _ _ _ => ⟨trivial, trivial⟩)
  refine FlowAllG.cons ?_ ?_
  ·
   intro xF w3 hR hg hd K hK
   have gg9 : (Tv w B AS1 AR1 (.slice x1 y1 z1) (.slice x2 y2 z2) w3) := hg 9 (by omega) (by decide)
   clear hg
   have dd6 : (∃ vs' vr', (xF 6) = tval vs' vr' ∧ SerAt w3 w3.heap.size vs' vr' AS2 AR2 ∧ RB w3 vr') := hd 6 (by kernel_rfl)
   clear hd
   simp only [← hAF, Act.put] at hK ⊢
   clear hAF
   try simp only [Nat.zero_add] at hK ⊢
   try simp only [Nat.reduceAdd] at hK ⊢
   try generalize xF 6 = yy6 at *
   obtain ⟨vs6, vr6, rfl, hs6, hr6⟩ := dd6
   obtain hbR := id hR
   obtain ⟨⟨k0, k1, k2⟩, ⟨g0, g1, g2⟩⟩ := gg9.cell
   have HG9 := Lib.hid gg9
   obtain ⟨p1, p2, p3, p4, p5, p6, rfl, rfl⟩ := hs6.vals
   rw [if_pos (by rfl)]
   go_simp
   exact hK.out undef _ (⟨_, _, _, rfl, _, _, _, _, _, _, _, HG9.out.row⟩) (⟨_, _, Tv.store HG9.out aok2 hs6 hr6⟩) (fun _ _ _ => ⟨trivial, trivial⟩)
  refine FlowAllG.cons ?_ ?_
  ·
   intro xF w3 hR hg hd K hK
   clear hg
   have dd7 : ((xF 7) = .int .i64 1) := hd 7 (by kernel_rfl)
   clear hd
   simp only [← hAF, Act.put, List.setIfInBounds_toArray, List.set_cons_zero, List.set_cons_succ] at hK ⊢
   clear hAF
   try simp only [Nat.zero_add] at hK ⊢
   try simp only [Nat.reduceAdd] at hK ⊢
   try generalize xF 7 = yy7 at *
   obtain rfl := dd7
   obtain hbR := id hR
   rw [if_pos (by rfl)]
   go_simp
   exact hK.out _ _ (Below.refl _ _) (rfl) (fun _ _ _ => ⟨trivial, trivial⟩)
  refine FlowAllG.cons ?_ ?_
  ·
   intro xF w3 hR hg hd K hK
   clear hg
   have dd8 : ((xF 8) = .int .i64 0) := hd 8 (by kernel_rfl)
   clear hd
   simp only [← hAF, Act.put, List.setIfInBounds_toArray, List.set_cons_zero, List.set_cons_succ] at hK ⊢
   clear hAF
   try simp only [Nat.zero_add] at hK ⊢
   try simp only [Nat.reduceAdd] at hK ⊢
   try generalize xF 8 = yy8 at *
   obtain rfl := dd8
   obtain hbR := id hR
   rw [if_pos (by rfl)]
   go_simp
   exact hK.out _ _ (Below.refl _ _) (rfl) (fun _ _ _ => ⟨trivial, trivial⟩)
  exact FlowAllG.nil
 intro xF w3 hR hF hP
 clear hP
 have dd0 : ((xF 0) = tval (.slice x1 y1 z1) (.slice x2 y2 z2)) := hF 0 (by omega) (by decide)
 have dd3 : ((xF 3) = .string (nam 3)) := hF 3 (by omega) (by decide)
 have dd5 : (∃ vs' vr', (xF 5) = .tuple #[tval vs' vr', .int .i64 1, .int .i64 0] ∧ SerAt w3 w3.heap.size vs' vr' AS2 AR2 ∧ RB w3 vr') := hF 5 (by omega) (by decide)
 have dd7 : ((xF 7) = .int .i64 1) := hF 7 (by omega) (by decide)
 have dd8 : ((xF 8) = .int .i64 0) := hF 8 (by omega) (by decide)
 have dd9 : (∃ vs' vr', Tv w B AS2 AR2 vs' vr' w3) := hF 9 (by omega) (by decide)
 have dd10 : ((xF 10) = .int .i64 1) := hF 10 (by omega) (by decide)
 have dd11 : ((xF 11) = .int .i64 0) := hF 11 (by omega) (by decide)
 clear hF
 simp only [List.take_succ_cons, List.take_zero, List.drop_succ_cons, List.drop_zero, fillOf, Act.put, List.setIfInBounds_toArray, List.set_cons_zero, List.set_cons_succ, Nat.reduceAdd, Nat.zero_add]
 try generalize xF 0 = yy0 at *
 try generalize xF 1 = yy1 at *
 try generalize xF 2 = yy2 at *
 try generalize xF 3 = yy3 at *
 try generalize xF 4 = yy4 at *
 try generalize xF 5 = yy5 at *
 try generalize xF 6 = yy6 at *
 try generalize xF 7 = yy7 at *
 try generalize xF 8 = yy8 at *
 try generalize xF 9 = yy9 at *
 try generalize xF 10 = yy10 at *
 try generalize xF 11 = yy11 at *
 clear xF
 obtain rfl := dd0
 obtain rfl := dd3
 obtain ⟨vs5, vr5, rfl, hs5, hr5⟩ := dd5
 obtain rfl := dd7
 obtain rfl := dd8
 obtain ⟨vs9, vr9, hT9⟩ := dd9
 obtain rfl := dd10
 obtain rfl := dd11
 have hRE := Lib.hid hR
 clear hR
 have HT5 := Lib.hid hT9
 obtain ⟨p1, p2, p3, p4, p5, p6, rfl, rfl⟩ := HT5.out.ser.vals
 clear hRE HT1 HT hs5 hr5 hT9
 obtain ⟨⟨d0, d1, d2⟩, _⟩ := HT5.out.cell
 have HLB := Lib.hid (LB.out _ _ _ HT5.out.ser)
 go_wp2_with fail
 (with_reducible refine HLB.out.mono ?_)
 rintro e wc ⟨v, rfl, hv, hb5⟩
 obtain ⟨lo, lc, rfl⟩ : ∃ a c, v = .slice a 2 c := by
  obtain ⟨a, c, e, _⟩ := Cells.form hv
  exact ⟨a, c, e⟩
 obtain ⟨lb, lf, rfl, hlB, _, _⟩ := Labs.get hv (n := 2) rfl (j := 1) (by decide)
 have hl3 : wc.cell? ⟨lb, lf + 3, none⟩ = some (.string ⟨#[50]⟩) := by
  obtain ⟨_, ao', c', e, _, _, h4⟩ := hv
  simp only [Value.slice.injEq] at e
  obtain ⟨b', off', e2, _, hc⟩ := h4 (by decide)
  rw [e2] at e
  simp only [Option.some.injEq, Addr.mk.injEq] at e
  obtain ⟨⟨rfl, rfl, _⟩, _⟩ := e
  exact hc 3 _ rfl
 have HT6 := Lib.hid (HT5.out.step hb5)
 have HDR := Lib.hid (DR.out _ _ _ HT6.out.ser)
 clear d0 d1 d2 hv hb5
 obtain ⟨⟨b0, b1, b2⟩, ⟨f0, f1, f2⟩⟩ := HT6.out.cell
 go_wp2_with fail
 (with_reducible refine HDR.out.mono ?_)
 rintro e wd ⟨vs3, vr3, rfl, hs3, hb6, hr3⟩
 have HT7 := Lib.hid (HT6.out.step hb6)
 have HT8 := Lib.hid (Tv.store HT7.out aok3 hs3 (hr3 HT6.out.rb))
 obtain ⟨x5, y5, z5, x6, y6, z6, rfl, rfl⟩ := hs3.vals
 have hl7 := (hb6.cell (p := ⟨lb, lf + 3, none⟩) hlB).trans hl3
 clear b0 b1 b2 f0 f1 f2
 obtain ⟨⟨b0, b1, b2⟩, ⟨f0, f1, f2⟩⟩ := HT7.out.cell
 obtain ⟨WD, hWD⟩ : ∃ W, W = ((wd.setCell ⟨B, 0, none⟩ (.slice x5 y5 z5)).setCell ⟨B, 1, none⟩ (.int .i64 24000)).setCell ⟨B, 2, none⟩ (.slice x6 y6 z6) := ⟨_, rfl⟩
 rw [← hWD] at HT8
 have hlD : WD.cell? ⟨lb, lf + 3, none⟩ = some (.string ⟨#[50]⟩) := by
  have hne : B ≠ lb := by
   rintro rfl
   have h1 := b0; have h2 := HT7.out.row
   have h3 := hl7
   simp only [World.cell?, h2] at h3
   rcases lf with _ | lf <;> simp at h3
  rw [hWD, World.cell?_setCell_far _ _ _ _ hne, World.cell?_setCell_far _ _ _ _ hne, World.cell?_setCell_far _ _ _ _ hne]
  exact hl7
 have hlD2 : lb < WD.heap.size := by rw [hWD, set3_size]; have := hb6.size; omega
 have HLD := Lib.hid hlD
 have HWD := Lib.hid hWD
 have HT := HT8
 clear hs3 hr3 hb6 hl3 hl7 hlB hWD hlD
 go_wp2
 rw [← HWD.out]
 refine wp_flow 10 (fun _ => 1000) (fun ww => RowKit.Below WD.heap.size WD ww) (fun _ w w' => (fun (w w' : World) => RowKit.Below w.heap.size w w') w w') (fun kF vF wF => match kF with | 0 => (vF = tval (.slice x5 y5 z5) (.slice x6 y6 z6)) | 1 => (∃ b, vF = .slice (some ⟨b, 0, none⟩) 7 7 ∧ Strs wF wF.heap.size (.slice (some ⟨b, 0, none⟩) 7 7) NM) | 2 => (∃ b, vF = .pointer (some ⟨b, 0, none⟩) ∧ wF.cell? ⟨b, 0, none⟩ = some (.string (nam (0))) ∧ b < wF.heap.size) | 3 => (vF = .string (nam 0)) | 4 => (vF = .tuple #[.int .i64 0, .bool false]) | 5 => (vF = .tuple #[.int .i64 0, .bool false]) | 6 => (vF = .int .i64 0) | 7 => (vF = .bool false) | 8 => (vF = .int .i64 0) | 9 => (vF = .bool false) | _ => True) (fun _ _ _ _ => True) (by kernel_rfl) (by kernel_rfl) ?_ ?_ ?_ ?_ ?_
 ·
  exact (Below.refl _ _).drew
 ·
  intro iF wF1 wF2 hR hT; exact hR.trans (hT.mono hR.size)
 ·
  intro kF hkF iF hiF hne hdd hanc hdan vF wF1 wF2 h hT
  rcases (by omega : kF = 0 ∨ kF = 1 ∨ kF = 2 ∨ kF = 3 ∨ kF = 4 ∨ kF = 5 ∨ kF = 6 ∨ kF = 7 ∨ kF = 8 ∨ kF = 9) with rfl | rfl | rfl | rfl | rfl | rfl | rfl | rfl | rfl | rfl
  ·
   exact h
  ·
   have h : (∃ b, vF = .slice (some ⟨b, 0, none⟩) 7 7 ∧ Strs wF1 wF1.heap.size (.slice (some ⟨b, 0, none⟩) 7 7) NM) := h
   show (∃ b, vF = .slice (some ⟨b, 0, none⟩) 7 7 ∧ Strs wF2 wF2.heap.size (.slice (some ⟨b, 0, none⟩) 7 7) NM)
   have hT : (fun (w w' : World) => RowKit.Below w.heap.size w w') wF1 wF2 := hT
   simp only at hT
   obtain ⟨b, e, h1⟩ := h
   exact ⟨b, e, Cells.next h1 hT⟩
  ·
   have h : (∃ b, vF = .pointer (some ⟨b, 0, none⟩) ∧ wF1.cell? ⟨b, 0, none⟩ = some (.string (nam (0))) ∧ b < wF1.heap.size) := h
   show (∃ b, vF = .pointer (some ⟨b, 0, none⟩) ∧ wF2.cell? ⟨b, 0, none⟩ = some (.string (nam (0))) ∧ b < wF2.heap.size)
   have hT : (fun (w w' : World) => RowKit.Below w.heap.size w w') wF1 wF2 := hT
   simp only at hT
   obtain ⟨b, e, h1, h2⟩ := h
   exact ⟨b, e, (hT.cell (p := ⟨b, 0, none⟩) h2).trans h1, Nat.lt_of_lt_of_le h2 hT.size⟩
  ·
   exact h
  ·
   exact h
  ·
   exact h
  ·
   exact h
  ·
   exact h
  ·
   exact h
  ·
   exact h
 ·
  generalize hAF : fillOf _ _ _ = AF
  replace hAF := fun x => congrFun hAF x
  simp only [List.take_succ_cons, List.take_zero, fillOf, Act.put, List.setIfInBounds_toArray, List.set_cons_zero, List.set_cons_succ, Nat.reduceAdd, Nat.zero_add] at hAF
  refine FlowAll.cons ?_ ?_
  ·
   intro xF w7 hR hd K hK
   clear hd
   simp only [← hAF, Act.put, List.setIfInBounds_toArray, List.set_cons_zero, List.set_cons_succ] at hK ⊢
   clear hAF
   try simp only [Nat.zero_add] at hK ⊢
   try simp only [Nat.reduceAdd] at hK ⊢
   obtain hbR := id hR
   obtain ⟨⟨k0, k1, k2⟩, _⟩ := (HT8.out.step hR).cell
   rw [if_pos (by rfl)]
   go_simp
   exact hK.out _ _ (Below.refl _ _) (rfl) (fun _ _ _ => ⟨trivial, trivial⟩)
  refine FlowAll.cons ?_ ?_
  ·
   intro xF w7 hR hd K hK
   clear hd
   simp only [← hAF, Act.put, List.setIfInBounds_toArray, List.set_cons_zero, List.set_cons_succ] at hK ⊢
   clear hAF
   try simp only [Nat.zero_add] at hK ⊢
   try simp only [Nat.reduceAdd] at hK ⊢
   obtain hbR := id hR
   rw [if_pos (by rfl)]
   go_simp
   (go_at_call 9; (with_reducible refine (HNM.out _).mono ?_); rintro e wK ⟨b, rfl, hs, hbK⟩)
   try go_wp2_with fail
   exact hK.out _ _ (hbK) (⟨_, rfl, hs⟩) (fun _ _ _ => ⟨trivial, trivial⟩)
  refine FlowAll.cons ?_ ?_
  ·
   intro xF w7 hR hd K hK
   have dd1 : (∃ b, (xF 1) = .slice (some ⟨b, 0, none⟩) 7 7 ∧ Strs w7 w7.heap.size (.slice (some ⟨b, 0, none⟩) 7 7) NM) := hd 1 (by kernel_rfl)
   clear hd
   simp only [← hAF, Act.put, List.setIfInBounds_toArray, List.set_cons_zero, List.set_cons_succ] at hK ⊢
   clear hAF
   try simp only [Nat.zero_add] at hK ⊢
   try simp only [Nat.reduceAdd] at hK ⊢
   try generalize xF 1 = yy1 at *
   obtain ⟨nb1, rfl, hn1⟩ := dd1
   obtain hbR := id hR
   rw [if_pos (by rfl)]
   go_simp
   exact hK.out _ _ (Below.refl _ _) (⟨_, rfl, names_cell hn1 0 (by decide), names_lt hn1⟩) (fun _ _ _ => ⟨trivial, trivial⟩)
  refine FlowAll.cons ?_ ?_
  ·
   intro xF w7 hR hd K hK
   have dd2 : (∃ b, (xF 2) = .pointer (some ⟨b, 0, none⟩) ∧ w7.cell? ⟨b, 0, none⟩ = some (.string (nam (0))) ∧ b < w7.heap.size) := hd 2 (by kernel_rfl)
   clear hd
   simp only [← hAF, Act.put, List.setIfInBounds_toArray, List.set_cons_zero, List.set_cons_succ] at hK ⊢
   clear hAF
   try simp only [Nat.zero_add] at hK ⊢
   try simp only [Nat.reduceAdd] at hK ⊢
   try generalize xF 2 = yy2 at *
   obtain ⟨nc2, rfl, hc2, hl2⟩ := dd2
   obtain hbR := id hR
   rw [if_pos (by rfl)]
   go_simp
   exact hK.out _ _ (Below.refl _ _) (rfl) (fun _ _ _ => ⟨trivial, trivial⟩)
  refine FlowAll.cons ?_ ?_
  ·
   intro xF w7 hR hd K hK
   have dd0 : ((xF 0) = tval (.slice x5 y5 z5) (.slice x6 y6 z6)) := hd 0 (by kernel_rfl)
   have dd3 : ((xF 3) = .string (nam 0)) := hd 3 (by kernel_rfl)
   clear hd
   simp only [← hAF, Act.put, List.setIfInBounds_toArray, List.set_cons_zero, List.set_cons_succ] at hK ⊢
   clear hAF
   try simp only [Nat.zero_add] at hK ⊢
   try simp only [Nat.reduceAdd] at hK ⊢
   try generalize xF 0 = yy0 at *
   try generalize xF 3 = yy3 at *
   obtain rfl := dd0
   obtain rfl := dd3
   obtain hbR := id hR
   rw [if_pos (by rfl)]
   go_simp
   (have HTX := Lib.hid (HT8.out.step hR); go_at_call 10; (with_reducible refine (FI.out _ _ _ HTX.out.below HTX.out.ser).mono ?_); rintro e wK ⟨rfl, hbK⟩)
   try go_wp2_with fail
   exact hK.out _ _ (hbK) (rfl) (fun _ _ _ => ⟨trivial, trivial⟩)
  refine FlowAll.cons ?_ ?_
  ·
   intro xF w7 hR hd K hK
   have dd4 : ((xF 4) = .tuple #[.int .i64 0, .bool false]) := hd 4 (by kernel_rfl)
   clear hd
   simp only [← hAF, Act.put, List.setIfInBounds_toArray, List.set_cons_zero, List.set_cons_succ] at hK ⊢
   clear hAF
   try simp only [Nat.zero_add] at hK ⊢
   try simp only [Nat.reduceAdd] at hK ⊢
   try generalize xF 4 = yy4 at *
   obtain rfl := dd4
   obtain hbR := id hR
   rw [if_pos (by rfl)]
   go_simp
   exact hK.out _ _ (Below.refl _ _) (rfl) (fun _ _ _ => ⟨trivial, trivial⟩)
  refine FlowAll.cons ?_ ?_
  ·
   intro xF w7 hR hd K hK
   have dd5 : ((xF 5) = .tuple #[.int .i64 0, .bool false]) := hd 5 (by kernel_rfl)
   clear hd
   simp only [← hAF, Act.put, List.setIfInBounds_toArray, List.set_cons_zero, List.set_cons_succ] at hK ⊢
   clear hAF
   try simp only [Nat.zero_add] at hK ⊢
   try simp only [Nat.reduceAdd] at hK ⊢
   try generalize xF 5 = yy5 at *
   obtain rfl := dd5
   obtain hbR := id hR
   rw [if_pos (by rfl)]
   go_simp
   exact hK.out _ _ (Below.refl _ _) (rfl) (fun _ _ _ => ⟨trivial, trivial⟩)
  refine FlowAll.cons ?_ ?_
  ·
   intro xF w7 hR hd K hK
   have dd5 : ((xF 5) = .tuple #[.int .i64 0, .bool false]) := hd 5 (by kernel_rfl)
   clear hd
   simp only [← hAF, Act.put, List.setIfInBounds_toArray, List.set_cons_zero, List.set_cons_succ] at hK ⊢
   clear hAF
   try simp only [Nat.zero_add] at hK ⊢
   try simp only [Nat.reduceAdd] at hK ⊢
   try generalize xF 5 = yy5 at *
   obtain rfl := dd5
   obtain hbR := id hR
   rw [if_pos (by rfl)]
   go_simp
   exact hK.out _ _ (Below.refl _ _) (rfl) (fun _ _ _ => ⟨trivial, trivial⟩)
  refine FlowAll.cons ?_ ?_
  ·
   intro xF w7 hR hd K hK
   have dd6 : ((xF 6) = .int .i64 0) := hd 6 (by kernel_rfl)
   clear hd
   simp only [← hAF, Act.put, List.setIfInBounds_toArray, List.set_cons_zero, List.set_cons_succ] at hK ⊢
   clear hAF
   try simp only [Nat.zero_add] at hK ⊢
   try simp only [Nat.reduceAdd] at hK ⊢
   try generalize xF 6 = yy6 at *
   obtain rfl := dd6
   obtain hbR := id hR
   rw [if_pos (by rfl)]
   go_simp
   exact hK.out _ _ (Below.refl _ _) (rfl) (fun _ _ _ => ⟨trivial, trivial⟩)
  refine FlowAll.cons ?_ ?_
  ·
   intro xF w7 hR hd K hK
   have dd7 : ((xF 7) = .bool false) := hd 7 (by kernel_rfl)
   clear hd
   simp only [← hAF, Act.put, List.setIfInBounds_toArray, List.set_cons_zero, List.set_cons_succ] at hK ⊢
   clear hAF
   try simp only [Nat.zero_add] at hK ⊢
   try simp only [Nat.reduceAdd] at hK ⊢
   try generalize xF 7 = yy7 at *
   obtain rfl := dd7
   obtain hbR := id hR
   rw [if_pos (by rfl)]
   go_simp
   exact hK.out _ _ (Below.refl _ _) (rfl) (fun _ _ _ => ⟨trivial, trivial⟩)
  exact FlowAll.nil
 intro xF w7 hR hF hP
 clear hP
 have dd0 : ((xF 0) = tval (.slice x5 y5 z5) (.slice x6 y6 z6)) := hF 0 (by omega) (by decide)
 have dd1 : (∃ b, (xF 1) = .slice (some ⟨b, 0, none⟩) 7 7 ∧ Strs w7 w7.heap.size (.slice (some ⟨b, 0, none⟩) 7 7) NM) := hF 1 (by omega) (by decide)
 have dd2 : (∃ b, (xF 2) = .pointer (some ⟨b, 0, none⟩) ∧ w7.cell? ⟨b, 0, none⟩ = some (.string (nam (0))) ∧ b < w7.heap.size) := hF 2 (by omega) (by decide)
 have dd3 : ((xF 3) = .string (nam 0)) := hF 3 (by omega) (by decide)
 have dd4 : ((xF 4) = .tuple #[.int .i64 0, .bool false]) := hF 4 (by omega) (by decide)
 have dd5 : ((xF 5) = .tuple #[.int .i64 0, .bool false]) := hF 5 (by omega) (by decide)
 have dd6 : ((xF 6) = .int .i64 0) := hF 6 (by omega) (by decide)
 have dd7 : ((xF 7) = .bool false) := hF 7 (by omega) (by decide)
 have dd8 : ((xF 8) = .int .i64 0) := hF 8 (by omega) (by decide)
 have dd9 : ((xF 9) = .bool false) := hF 9 (by omega) (by decide)
 clear hF
 simp only [List.take_succ_cons, List.take_zero, List.drop_succ_cons, List.drop_zero, fillOf, Act.put, List.setIfInBounds_toArray, List.set_cons_zero, List.set_cons_succ, Nat.reduceAdd, Nat.zero_add]
 try generalize xF 0 = yy0 at *
 try generalize xF 1 = yy1 at *
 try generalize xF 2 = yy2 at *
 try generalize xF 3 = yy3 at *
 try generalize xF 4 = yy4 at *
 try generalize xF 5 = yy5 at *
 try generalize xF 6 = yy6 at *
 try generalize xF 7 = yy7 at *
 try generalize xF 8 = yy8 at *
 try generalize xF 9 = yy9 at *
 clear xF
 obtain rfl := dd0
 obtain ⟨nb1, rfl, hn1⟩ := dd1
 obtain ⟨nc2, rfl, hc2, hl2⟩ := dd2
 obtain rfl := dd3
 obtain rfl := dd4
 obtain rfl := dd5
 obtain rfl := dd6
 obtain rfl := dd7
 obtain rfl := dd8
 obtain rfl := dd9
 have hRE := Lib.hid hR
 clear hR
 have D7 := hRE.out
 have HT9 := Lib.hid (HT8.out.step D7)
 have hl9 := (D7.cell (p := ⟨lb, lf + 3, none⟩) hlD2).trans HLD.out
 have hl9z : lb < w7.heap.size := Nat.lt_of_lt_of_le hlD2 D7.size
 clear hRE D7 HT8 HT hn1 hc2 hl2 b0 b1 b2 f0 f1 f2 HLD
 have HRT := Lib.hid (RT.out _ _ _ HT9.out.ser)
 have HBW := Lib.hid HT9.out.below
 obtain ⟨⟨b0, b1, b2⟩, _⟩ := HT9.out.cell
 go_wp2_with fail
 (with_reducible refine HRT.out.mono ?_)
 rintro e wf ⟨rfl, hb9⟩
 have hfin := HBW.out.trans (hb9.mono HBW.out.size)
 go_wp2
 go_ret
 exact ⟨rfl, hfin⟩
end Go.Proofs.Ytegjpiggjcfoaaa
