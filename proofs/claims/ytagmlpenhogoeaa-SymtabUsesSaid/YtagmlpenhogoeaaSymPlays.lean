/- The law's plays: a table behind some calls, and how often each text is used. -/
import Derived.Test.YtagmlpenhogoeaaSymCnt
import Derived.Test.YtagmlpenhogoeaaSymStays
namespace Go.Proofs.Ytagmlpenhogoeaa
open Go.RowKit Go.ChangeShapes Go.Maps Go.WideMaps cl at_

def NewP (w : World) (e : Ending) (w' : World) : Prop := (∃ c : Int, 0 ≤ c ∧ c ≤ 24000 ∧ e = .returned (.agg #[.slice none 0 0, .int .i64 c])) ∧ Below w.heap.size w w'
set_option maxHeartbeats 400000 in
theorem new_any (room : Int) (w : World) : Calls Try.prog 26 #[.int .i64 room] w (NewP w) := by
  by_cases h0 : room ≤ 0
  · have h1 : room ≤ 24000 := by omega
    have h2 : ¬ 24000 < room := by omega
    have h3 : ¬ 0 < room := by omega
    go_enter Try.func26, Try.ntmps26
    go_wp2
    exact bodyPost_ret (v := .agg #[.slice none 0 0, .int .i64 0]) (by simp [results, Try.results26, go_sem]) rfl ⟨⟨0, by omega, by omega, rfl⟩, ((Below.refl _ _).alloc (Nat.le_refl _) _)⟩
  · by_cases h1 : room ≤ 24000
    · have h2 : ¬ 24000 < room := by omega
      have h3 : 0 < room := by omega
      have h4 : 0 ≤ room := by omega
      go_enter Try.func26, Try.ntmps26
      go_wp2
      exact bodyPost_ret (v := .agg #[.slice none 0 0, .int .i64 room]) (by simp [results, Try.results26, go_sem]) rfl ⟨⟨room, by omega, by omega, rfl⟩, ((Below.refl _ _).alloc (Nat.le_refl _) _)⟩
    · have h2 : 24000 < room := by omega
      go_enter Try.func26, Try.ntmps26
      go_wp2
      exact bodyPost_ret (v := .agg #[.slice none 0 0, .int .i64 24000]) (by simp [results, Try.results26, go_sem]) rfl ⟨⟨24000, by omega, by omega, rfl⟩, ((Below.refl _ _).alloc (Nat.le_refl _) _)⟩
theorem Tabs.turn {W W' : World} {n cap mb : Nat} {L : List tb.Sym} {ao : Option Addr} {es : Array MapEntry} {cl : Nat} (h : Tabs W W.heap.size (.slice ao n cap) L) (hg : W.grownBy W' (some mb)) (hm : W.heap[mb]? = some (.map es cl)) : Tabs W' W'.heap.size (.slice ao n cap) L := by
  have hz := hg.size
  obtain ⟨g0, ao2, cap2, e, g1, g2, g3⟩ := h
  refine ⟨g0, ao2, cap2, e, g1, g2, fun hp => ?_⟩
  obtain ⟨b, off, e2, hb, hc⟩ := g3 hp
  have hbm : ¬ b = mb := fun ebm => by
    have h0 : 0 < (tcells L).length := by rw [tcells_len]; omega
    have hx := hc 0 _ (List.getElem?_eq_getElem h0)
    rw [ebm] at hx
    simp [World.cell?, hm] at hx
  refine ⟨b, off, e2, by omega, fun j u hj => ?_⟩
  rw [World.cell?_of_block (a := ⟨b, off + j, none⟩) (hg.block b hb (fun e => hbm (Option.some.inj e)))]
  exact hc j u hj
def PlayP (q : Nat) (w : World) (e : Ending) (w' : World) : Prop :=
  ∃ (a : Option Addr) (n cap : Nat) (c : Int) (L : List tb.Sym) (D : DataW Unit) (mb N : Nat) (ok : Bool), e = .returned (.tuple #[.agg #[.slice a n cap, .int .i64 c], .map (some mb), .bool ok]) ∧ n = L.length ∧ tb.Right c L ∧ Tabs w' w'.heap.size (.slice a n cap) L ∧
    w'.ownsMap Try.prog 9 (plainElem Try.prog 3) mb N D ∧ CNT D L ∧ Below w.heap.size w w' ∧ w.heap.size ≤ mb ∧ (ok = true → q ≤ 120)
theorem PlayP.step {q : Nat} {w W W' : World} {e : Ending} (h : PlayP q w e W) (hb : Below W.heap.size W W') : PlayP q w e W' := by
  obtain ⟨a, n, cap, c, L, D, mb, N, ok, h1, h2, h3, h4, h5, h6, h7, h8⟩ := h
  exact ⟨a, n, cap, c, L, D, mb, N, ok, h1, h2, h3, Cells.next h4 hb, omap_step h5 hb, h6, h7.trans (hb.mono h7.size), h8⟩
theorem ret_alloc {W : World} {R : Nat} {u v u0 v0 : Value} {o : Obj} (h0 : W.cell? ⟨R, 0, none⟩ = some u0) (h1 : W.cell? ⟨R, 1, none⟩ = some v0) :
    (((W.setCell ⟨R, 0, none⟩ u).setCell ⟨R, 1, none⟩ v).alloc o).cell? ⟨R, 0, none⟩ = some u ∧ (((W.setCell ⟨R, 0, none⟩ u).setCell ⟨R, 1, none⟩ v).alloc o).cell? ⟨R, 1, none⟩ = some v := by
  have hb : Below ((W.setCell ⟨R, 0, none⟩ u).setCell ⟨R, 1, none⟩ v).heap.size ((W.setCell ⟨R, 0, none⟩ u).setCell ⟨R, 1, none⟩ v) (((W.setCell ⟨R, 0, none⟩ u).setCell ⟨R, 1, none⟩ v).alloc o) := (Below.refl _ _).alloc (Nat.le_refl _) _
  have hlt : R < ((W.setCell ⟨R, 0, none⟩ u).setCell ⟨R, 1, none⟩ v).heap.size := by rw [World.size_setCell, World.size_setCell]; exact World.block_lt_of_cell? _ _ h0
  refine ⟨(hb.cell (p := ⟨R, 0, none⟩) hlt).trans ?_, (hb.cell (p := ⟨R, 1, none⟩) hlt).trans ?_⟩
  · rw [World.cell?_setCell_other _ _ _ _ (by simp), World.cell?_setCell_same _ _ _ h0]
  · rw [World.cell?_setCell_same _ _ _ (u := v0) (by rw [World.cell?_setCell_other _ _ _ _ (by simp)]; exact h1)]
theorem apart2 {W : World} {R n cap n' cap' : Nat} {ao ao' : Option Addr} (h : ∀ b off, ao = some ⟨b, off, none⟩ → b ≠ R) (hR : R < W.heap.size) (hv : Value.slice ao n cap = .slice ao' n' cap' ∨ ∃ g, ao' = some ⟨g, 0, none⟩ ∧ W.heap.size ≤ g) :
    ∀ b off, ao' = some ⟨b, off, none⟩ → b ≠ R := by
  intro b off e
  rcases hv with h1 | ⟨g, h1, h2⟩
  · simp only [Value.slice.injEq] at h1
    exact h b off (by rw [h1.1, e])
  · rw [h1] at e
    simp only [Option.some.injEq, Addr.mk.injEq] at e
    omega

set_option maxHeartbeats 12800000 in
set_option maxRecDepth 100000 in
theorem plays_any (room : Int) (l : List Op3) (v : Value) (w : World) (hlw : ∀ x ∈ l, x.2.2.size ≤ maxLen) (h : Ops w w.heap.size v l) :
    Calls Try.prog 28 #[.int .i64 room, v] w (PlayP l.length w) := by
  have hmm := @run_makeMap Try.prog
  obtain ⟨q, hq⟩ : ∃ q, q = l.length := ⟨_, rfl⟩
  obtain ⟨so, sc, rfl, hqm⟩ : ∃ ao cap, v = .slice ao q cap ∧ q ≤ maxLen := by
    obtain ⟨ao, cap, e, _, hm⟩ := h.form
    exact ⟨ao, cap, by rw [hq]; exact e, by rw [hq]; exact hm⟩
  unfold maxLen at hqm
  have HC := Lib.hid h
  have HQ := Lib.hid hq
  have HLW := Lib.hid hlw
  rw [← hq]
  clear h hq hlw
  go_enter Try.func28, Try.ntmps28
  go_wp2_with fail
  (with_reducible refine (new_any room _).mono ?_)
  rintro e w1 ⟨⟨c, hc0, hc1, rfl⟩, hb1⟩
  obtain ⟨W0, hW0⟩ : ∃ W, W = w.alloc (.cells #[.slice none 0 0, .int .i64 0] 24) := ⟨_, rfl⟩
  have HW0 := Lib.hid hW0
  have hsz0 : W0.heap.size = w.heap.size + 1 := by rw [hW0, World.size_alloc]
  have hbW1 : Below W0.heap.size W0 w1 := by rw [hW0]; exact hb1
  have hz1 := hbW1.size
  have HS1 := Lib.hid (St.start (w := W0) (c := c) (L := []) (t := 24) (Cells.nil w1 w1.heap.size 2) (fun b off e => by cases e) hbW1)
  have HS2 := Lib.hid (HS1.out.step ((Below.refl _ _).alloc (Nat.le_refl _) (.map #[] 0)))
  have HO2 : Hid (((w1.alloc (.cells #[.slice none 0 0, .int .i64 c] 24)).alloc (.map #[] 0)).ownsMap Try.prog 9 (plainElem (H := Unit) Try.prog 3) (w1.heap.size + 1) 0 (.map [])) := by
    have h := World.ownsMap_made (H := Unit) (w1.alloc (.cells #[.slice none 0 0, .int .i64 c] 24)) (P := Try.prog) (k := 9) (plainElem Try.prog 3)
    rw [World.size_alloc] at h
    exact h
  have HR2 : Hid (tb.Right c []) := tb.right_nil hc0 hc1
  -- what a return needs
  have HRET : Hid (∀ (W : World) (a : Option Addr) (n cap : Nat) (L : List tb.Sym) (D : DataW Unit) (N : Nat) (ok : Bool), n = L.length → tb.Right c L → St W0 w1.heap.size c L a n cap W → W.ownsMap Try.prog 9 (plainElem Try.prog 3) (w1.heap.size + 1) N D → CNT D L → (∀ b off, a = some ⟨b, off, none⟩ → b ≠ w.heap.size) → (ok = true → q ≤ 120) →
      PlayP q w (.returned (.tuple #[.agg #[.slice a n cap, .int .i64 c], .map (some (w1.heap.size + 1)), .bool ok])) ((W.setCell ⟨w.heap.size, 0, none⟩ (.slice a n cap)).setCell ⟨w.heap.size, 1, none⟩ (.int .i64 c))) := by
    intro W a n cap L D N ok h1 h2 h3 h4 h5 h6 h7
    have hbw : Below w.heap.size w W := by
      have := h3.2.2.2.2.2.2.1
      rw [HW0.out] at this
      exact ((Below.refl _ _).alloc (Nat.le_refl _) _).trans (this.mono (by rw [World.size_alloc]; omega))
    refine ⟨a, n, cap, c, L, D, w1.heap.size + 1, N, ok, rfl, h1, h2, ?_, omap_set (omap_set h4 (by omega)) (by omega), h5, (hbw.setCell (Nat.le_refl _) _).setCell (Nat.le_refl _) _, by omega, h7⟩
    have := Tabs.far (u := .slice a n cap) (v := .int .i64 c) h3.1 h6
    rw [World.size_setCell, World.size_setCell]
    exact this
  have HBOX : Hid (∀ (W : World) (a : Option Addr) (n cap : Nat) (L : List tb.Sym), St W0 w1.heap.size c L a n cap W → W.cell? ⟨w.heap.size, 0, none⟩ = some (.slice none 0 0) ∧ W.cell? ⟨w.heap.size, 1, none⟩ = some (.int .i64 0) ∧ W.frozen? ⟨w.heap.size, 0, none⟩ = false ∧ W.frozen? ⟨w.heap.size, 1, none⟩ = false ∧ w.heap.size < W.heap.size) := by
    intro W a n cap L h3
    have := h3.2.2.2.2.2.2.1
    rw [HW0.out] at this
    exact two this
  have HBW : Hid (∀ (W : World) (a : Option Addr) (n cap : Nat) (L : List tb.Sym), St W0 w1.heap.size c L a n cap W → Below w.heap.size w W) := by
    intro W a n cap L h3
    have := h3.2.2.2.2.2.2.1
    rw [HW0.out] at this
    exact ((Below.refl _ _).alloc (Nat.le_refl _) _).trans (this.mono (by rw [World.size_alloc]; omega))
  clear hW0 hbW1 hb1
  have hne0 : ¬ w1.heap.size = w.heap.size := by omega
  have hne1 : ¬ w.heap.size = w1.heap.size := by omega
  have hne2 : ¬ w.heap.size = w1.heap.size + 1 := by omega
  by_cases hq1 : 120 < q
  · have hqI : (120 : Int) < (q : Int) := by omega
    obtain ⟨r0, r1, rf0, rf1, _⟩ := HBOX.out _ _ _ _ _ HS2.out
    obtain ⟨_, _, q0, q1, f0, f1, _, _, _⟩ := HS2.out
    have HE := Lib.hid (HRET.out _ none 0 0 [] (.map []) 0 false rfl HR2.out HS2.out HO2.out cnt_nil (fun b off e => by cases e) (fun e => by cases e))
    go_wp2
    refine bodyPost_ret (v := .tuple #[.agg #[.slice none 0 0, .int .i64 c], .map (some (w1.heap.size + 1)), .bool false]) (by simp [results, Try.results28, go_sem, r0, r1]) rfl HE.out
  have hqI : ¬ (120 : Int) < (q : Int) := by omega
  have hq120 : q ≤ 120 := by omega
  go_wp2
  go_loopw [28] (fun u wr => ∃ (i : Nat) (L : List tb.Sym) (a : Option Addr) (n cap : Nat) (D : DataW Unit) (N : Nat), u = .int .i64 i ∧ i ≤ q ∧ N ≤ i ∧ Hid (n = L.length ∧ tb.Right c L) ∧ Hid (St W0 w1.heap.size c L a n cap wr) ∧ Hid (wr.ownsMap Try.prog 9 (plainElem Try.prog 3) (w1.heap.size + 1) N D) ∧ Hid (CNT D L) ∧ Hid (∀ b off, a = some ⟨b, off, none⟩ → b ≠ w.heap.size)) (fun u _ => q - (intOf u).toNat)
  case atStart => exact ⟨0, [], none, 0, 0, .map [], 0, rfl, by omega, by omega, ⟨rfl, HR2.out⟩, HS2.out, HO2.out, cnt_nil, fun b off e => by cases e⟩
  case round =>
    obtain ⟨i, L, a, n, cap, D, N, rfl, hi, hN, HNR, HS, HO, HCN, HAP⟩ := hrel
    by_cases hlt : i < q
    · have hiI : (i : Int) < (q : Int) := by omega
      obtain ⟨_, _, q0, q1, f0, f1, _, _, hB2⟩ := HS.out
      have hblr := HBW.out _ _ _ _ _ HS.out
      obtain ⟨b, off, rfl, hB, p0, p1, p2⟩ := Ops.get HC.out HQ.out hlt
      have e0 := (hblr.cell (p := ⟨b, off + i * 3, none⟩) hB).trans p0
      have e1 := (hblr.cell (p := ⟨b, off + i * 3 + 1, none⟩) hB).trans p1
      have e2 := (hblr.cell (p := ⟨b, off + i * 3 + 2, none⟩) hB).trans p2
      have hxw : (l.getD i (0, 0, .empty)).2.2.size ≤ maxLen := HLW.out _ (by simp [List.getD, show i < l.length by rw [← HQ.out]; exact hlt])
      obtain ⟨⟨kd, M, S⟩, hx⟩ : ∃ x, x = l.getD i (0, 0, .empty) := ⟨_, rfl⟩
      rw [← hx] at e0 e1 e2 hxw
      simp only at e0 e1 e2 hxw
      unfold maxLen at hxw
      clear p0 p1 p2 hx
      have hAo : Below wr.heap.size wr (wr.alloc (.cells #[.int .i64 kd, .int .i64 M, .string S] 49)) := (Below.refl _ _).alloc (Nat.le_refl _) _
      have HSA := Lib.hid (HS.out.step hAo)
      have HOA := Lib.hid (omap_step HO.out hAo)
      by_cases hS1 : 100 < S.size
      · have hSI : (100 : Int) < (S.size : Int) := by omega
        obtain ⟨r0, r1, rf0, rf1, _⟩ := HBOX.out _ _ _ _ _ HS.out
        have HE := Lib.hid ((HRET.out wr a n cap L D N false HNR.out.1 HNR.out.2 HS.out HO.out HCN.out HAP.out (fun e => by cases e)).step ((Below.refl _ _).alloc (Nat.le_refl _) (.cells #[.int .i64 kd, .int .i64 M, .string S] 49)))
        obtain ⟨z0, z1⟩ := ret_alloc (u := .slice a n cap) (v := .int .i64 c) (o := .cells #[.int .i64 kd, .int .i64 M, .string S] 49) r0 r1
        go_wp2
        refine bodyPost_ret (v := .tuple #[.agg #[.slice a n cap, .int .i64 c], .map (some (w1.heap.size + 1)), .bool false]) (by simp [results, Try.results28, go_sem, z0, z1]) rfl HE.out
      have hSI : ¬ (100 : Int) < (S.size : Int) := by omega
      have HKEY : Hid (keyOf Try.prog 9 (.string S) = some (.string S.data.toList)) := keyOf_string_mk Try.underlying9 (by unfold maxLen; omega)
      by_cases hkd : kd = 1
      · subst hkd
        have HTX := Lib.hid (text_any c M L (.slice a n cap) _ HSA.out.1)
        unfold TextP at HTX
        have HDC := Lib.hid (drop_code L M)
        have HRP := Lib.hid (tb.right_drop (id := M) HNR.out.2)
        have HUS : Hid (tb.used L M = true → (tb.drop L M).2 = 0 ∧ (tb.at_ L M.toNat).1.size ≤ 600 ∧ ∀ s', tb.cnt (tb.drop L M).1 s' = tb.cnt L s' - if s' = (tb.at_ L M.toNat).1 then 1 else 0) := fun hu => by
          refine ⟨by unfold tb.drop; rw [if_pos hu], ?_, fun s' => tb.cnt_drop HNR.out.2 hu⟩
          have h2 := hu
          unfold tb.used at h2
          obtain ⟨g0, g1, _⟩ := of_decide_eq_true h2
          exact (HNR.out.2.2.2.2.1 M.toNat (by omega)).2.2.1
        have HUN : Hid (¬ tb.used L M = true → tb.drop L M = (L, 5)) := fun hu => by unfold tb.drop; rw [if_neg hu]
        have HDD : Hid (∀ W, Tabs W W.heap.size (.slice a n cap) L → Calls Try.prog 12 #[.agg #[.slice a n cap, .int .i64 c], .int .i64 M] W (DropP c (.slice a n cap) (tb.drop L M) W)) := fun W ht => drop_right c M L (.slice a n cap) W HNR.out.2 ht
        obtain ⟨T, hT⟩ : ∃ T, T = (tb.at_ L M.toNat).1 := ⟨_, rfl⟩
        rw [← hT] at HTX HUS
        obtain ⟨U, hU⟩ : ∃ U, U = tb.used L M := ⟨_, rfl⟩
        rw [← hU] at HTX HUS HUN
        clear hT hU
        by_cases hu : U = true
        · subst hu
          obtain ⟨hcd, hT6, hcc⟩ := HUS.out rfl
          have HCC := Lib.hid hcc
          have HKEY2 : Hid (keyOf Try.prog 9 (.string T) = some (.string T.data.toList)) := keyOf_string_mk Try.underlying9 (by unfold maxLen; omega)
          obtain ⟨⟨L2, cd⟩, hL2⟩ : ∃ r, r = tb.drop L M := ⟨_, rfl⟩
          rw [← hL2] at hcd HCC HDD HRP
          simp only at hcd HCC HRP
          subst hcd
          clear hL2 hcc HDC HUS HUN HKEY
          have HKEY := HKEY2
          have HCP : Hid (True → ∀ s', tb.cnt L2 s' = tb.cnt L s' - if s' = T then 1 else 0) := fun _ => HCC.out
          rw [if_pos rfl] at HTX
          go_wp2_with fail
          (with_reducible refine HTX.out.mono ?_)
          rintro e wT ⟨rfl, hbT⟩
          obtain ⟨y0, y1, y2, _, _, _, _⟩ := cl.three (w := wr) (w2 := wT) (t := 49) hbT
          have HST := Lib.hid (HSA.out.step hbT)
          have HOT := Lib.hid (omap_step HOA.out hbT)
          have hzT : w.heap.size < wT.heap.size := by have := hbT.size; simp at this; omega
          have hzT2 : wr.heap.size < wT.heap.size := by have := hbT.size; simp at this; omega
          have HD := Lib.hid (HDD.out _ HST.out.1)
          unfold DropP at HD
          simp only at HD
          obtain ⟨n2, hn2⟩ : ∃ n, n = L2.length := ⟨_, rfl⟩
          rw [← hn2] at HD
          have HN2 := Lib.hid hn2
          clear hn2
          clear q0 q1 f0 f1 HDD
          obtain ⟨_, _, q0, q1, f0, f1, _, _, hBT⟩ := HST.out
          go_wp2_with fail
          (with_reducible refine HD.out.mono ?_)
          rintro e w3 ⟨a3, c3, rfl, hv3, ht3, hb3⟩
          have HS3 := Lib.hid (HST.out.step hb3)
          have HO3 := Lib.hid (omap_step HOT.out hb3)
          have HA3 := Lib.hid (St.apart HST.out hv3)
          have HAR := Lib.hid (apart2 HAP.out (W := wT) hzT hv3)
          have hz3 : wT.heap.size ≤ w3.heap.size := hb3.size
          have hne3 : ¬ w1.heap.size = w3.heap.size := by omega
          have hne4 : ¬ w3.heap.size = w1.heap.size := fun e => hne3 e.symm
          have hBx : Below w3.heap.size w3 (w3.alloc (.cells #[.slice a3 n2 c3, .int .i64 c] 24)) := (Below.refl _ _).alloc (Nat.le_refl _) _
          clear q0 q1 f0 f1
          obtain ⟨_, _, q0, q1, f0, f1, _, _, hB3⟩ := HS3.out
          have HS3b := Lib.hid (HS3.out.step hBx)
          have HO3b := Lib.hid (omap_step HO3.out hBx)
          have HT3b := Lib.hid (Cells.next ht3 hBx)
          obtain ⟨x0, x1, _, _, _⟩ := two (w := w3) (w2 := w3.alloc (.cells #[.slice a3 n2 c3, .int .i64 c] 24)) (t := 24) (Below.refl _ _)
          have HX := Lib.hid (And.intro x0 x1)
          have HMH := Lib.hid (omap_heap HO3b.out)
          clear x0 x1 ht3 hv3 hBx
          go_wp2_with (first
            | (at_lookup; refine wpList_lookup_own_int _ rfl _ _ 45 rfl 9 3 .i64 mlaw Try.underlying45 Try.underlying3 (zeroI _) (w1.heap.size + 1) N D rfl HO3b.out _ _ rfl HKEY.out ?_; intro cv hat hwc; have HCV := Lib.hid (CNT.get HCN.out hat); have hcv0 : 0 ≤ cv := (by rw [HCV.out]; exact (tb.cnt_bd HNR.out.2).1); have hcv1 : cv ≤ 1099511627776 := (by rw [HCV.out]; exact (tb.cnt_bd HNR.out.2).2); clear hat hwc)
            | (at_mapUpdate; refine wpList_mapUpdate_own _ rfl _ _ _ 45 rfl 9 3 mlaw Try.underlying45 _ (w1.heap.size + 1) N _ rfl HO3b.out (by unfold maxLen; omega) _ _ _ rfl rfl HKEY.out _ [] (plainElem_int Try.underlying3 (WalkArith.wf_i64 (by omega))) ?_))
          intro w4 hown4 hg4
          obtain ⟨es, clk, hmh⟩ := HMH.out
          have HS4 := Lib.hid (St.turn HS3b.out hg4 hmh (by omega) (by omega))
          have HT4 := Lib.hid (Tabs.turn HT3b.out hg4 hmh)
          have HS5 := Lib.hid (St.store HS4.out HT4.out HA3.out)
          have HO5 := Lib.hid (omap_set (B := w1.heap.size) (o := 1) (u := .int .i64 c) (omap_set (B := w1.heap.size) (o := 0) (u := .slice a3 n2 c3) hown4 (by omega)) (by omega))
          have HC5 := Lib.hid (CNT.put HCN.out (HO3.out.tidy mlaw) (L' := L2) (s := T) (x := cv - 1) (by rw [HCP.out trivial T, if_pos rfl, HCV.out]) (fun s' hs => by rw [HCP.out trivial s', if_neg hs]; omega))
          have x0 := hg4.cell HX.out.1 (show some w3.heap.size ≠ some (w1.heap.size + 1) from fun e => by have := Option.some.inj e; omega)
          have x1 := hg4.cell HX.out.2 (show some w3.heap.size ≠ some (w1.heap.size + 1) from fun e => by have := Option.some.inj e; omega)
          have hx4 : w3.heap.size < w4.heap.size := by have := hg4.size; rw [World.size_alloc] at this; omega
          clear q0 q1 f0 f1
          obtain ⟨_, _, q0, q1, f0, f1, _, _, hB4⟩ := HS4.out
          clear hown4 hg4 hmh
          go_wp2
          go_roundw
          case rel => exact ⟨i + 1, L2, a3, n2, c3, _, N + 1, by go_num, by omega, by omega, ⟨HN2.out, HRP.out⟩, HS5.out, HO5.out, HC5.out, HAR.out⟩
          case measure => simp [intOf]; omega
        · obtain rfl : U = false := by simpa using hu
          have hd5 := HUN.out (by decide)
          rw [hd5] at HDD
          have HN2 : Hid (n = L.length) := HNR.out.1
          have HRP := Lib.hid HNR.out.2
          clear hd5 HDC HUS HUN hu
          rw [if_neg (by decide)] at HTX
          go_wp2_with fail
          (with_reducible refine HTX.out.mono ?_)
          rintro e wT ⟨rfl, hbT⟩
          obtain ⟨y0, y1, y2, _, _, _, _⟩ := cl.three (w := wr) (w2 := wT) (t := 49) hbT
          have HST := Lib.hid (HSA.out.step hbT)
          have HOT := Lib.hid (omap_step HOA.out hbT)
          have hzT : w.heap.size < wT.heap.size := by have := hbT.size; simp at this; omega
          have hzT2 : wr.heap.size < wT.heap.size := by have := hbT.size; simp at this; omega
          have HD := Lib.hid (HDD.out _ HST.out.1)
          unfold DropP at HD
          simp only at HD
          rw [← HN2.out] at HD
          clear q0 q1 f0 f1 HDD
          obtain ⟨_, _, q0, q1, f0, f1, _, _, hBT⟩ := HST.out
          go_wp2_with fail
          (with_reducible refine HD.out.mono ?_)
          rintro e w3 ⟨a3, c3, rfl, hv3, ht3, hb3⟩
          have HS3 := Lib.hid (HST.out.step hb3)
          have HO3 := Lib.hid (omap_step HOT.out hb3)
          have HA3 := Lib.hid (St.apart HST.out hv3)
          have HAR := Lib.hid (apart2 HAP.out (W := wT) hzT hv3)
          have hz3 : wT.heap.size ≤ w3.heap.size := hb3.size
          have hne3 : ¬ w1.heap.size = w3.heap.size := by omega
          have hne4 : ¬ w3.heap.size = w1.heap.size := fun e => hne3 e.symm
          have hBx : Below w3.heap.size w3 (w3.alloc (.cells #[.slice a3 n c3, .int .i64 c] 24)) := (Below.refl _ _).alloc (Nat.le_refl _) _
          clear q0 q1 f0 f1
          obtain ⟨_, _, q0, q1, f0, f1, _, _, hB3⟩ := HS3.out
          have HS5 := Lib.hid ((St.store HS3.out ht3 HA3.out).step ((Below.refl _ _).alloc (Nat.le_refl _) (.cells #[.slice a3 n c3, .int .i64 c] 24)))
          have HO5 := Lib.hid ((omap_set (B := w1.heap.size) (o := 1) (u := .int .i64 c) (omap_set (B := w1.heap.size) (o := 0) (u := .slice a3 n c3) HO3.out (by omega)) (by omega)).alloc (.cells #[.slice a3 n c3, .int .i64 c] 24))
          have HC5 := Lib.hid (HCN.out)
          clear ht3 hv3 hBx
          go_wp2
          go_roundw
          case rel => exact ⟨i + 1, L, a3, n, c3, D, N, by go_num, by omega, by omega, ⟨HN2.out, HRP.out⟩, HS5.out, HO5.out, HC5.out, HAR.out⟩
          case measure => simp [intOf]; omega
      · have hkb : (kd == 1) = false := by simpa using hkd
        by_cases hkd2 : kd = 2
        · subst hkd2
          have HD := Lib.hid (compact_right c L (.slice a n cap) _ HNR.out.2 HSA.out.1)
          have HRP := Lib.hid (tb.right_keep HNR.out.2)
          have HCP : Hid (∀ s', tb.cnt (tb.keep L L.length) s' = tb.cnt L s') := fun s' => tb.cnt_keep HNR.out.2
          unfold CompP at HD
          obtain ⟨L2, hL2⟩ : ∃ L2, L2 = tb.keep L L.length := ⟨_, rfl⟩
          rw [← hL2] at HD HRP HCP
          obtain ⟨n2, hn2⟩ : ∃ n, n = L2.length := ⟨_, rfl⟩
          rw [← hn2] at HD
          have HN2 := Lib.hid hn2
          clear hL2 hn2
          go_wp2_with fail
          (with_reducible refine HD.out.mono ?_)
          rintro e w3 ⟨a3, c3, a4, c4, rfl, hv3, ht3, _, hb3⟩
          have HS3 := Lib.hid (HSA.out.step hb3)
          have HO3 := Lib.hid (omap_step HOA.out hb3)
          have hzz : w1.heap.size < wr.heap.size + 1 := by omega
          have HA3 : Hid (∀ b off, a3 = some ⟨b, off, none⟩ → b ≠ w1.heap.size) := fun b off e => by have := hv3 b off e; rw [World.size_alloc] at this; omega
          have HAR : Hid (∀ b off, a3 = some ⟨b, off, none⟩ → b ≠ w.heap.size) := fun b off e => by have := hv3 b off e; rw [World.size_alloc] at this; omega
          have HS5 := Lib.hid (St.store HS3.out ht3 HA3.out)
          have HO5 := Lib.hid (omap_set (B := w1.heap.size) (o := 1) (u := .int .i64 c) (omap_set (B := w1.heap.size) (o := 0) (u := .slice a3 n2 c3) HO3.out (by omega)) (by omega))
          have HC5 := Lib.hid (CNT.same HCN.out HCP.out)
          clear q0 q1 f0 f1
          obtain ⟨_, _, q0, q1, f0, f1, _, _, hB3⟩ := HS3.out
          clear ht3 hv3
          go_wp2
          go_roundw
          case rel => exact ⟨i + 1, L2, a3, n2, c3, D, N, by go_num, by omega, by omega, ⟨HN2.out, HRP.out⟩, HS5.out, HO5.out, HC5.out, HAR.out⟩
          case measure => simp [intOf]; omega
        · have hkb2 : (kd == 2) = false := by simpa using hkd2
          clear hkd hkd2
          have HCD := Lib.hid (put_code c L S)
          have HRP := Lib.hid (tb.right_put (s := S) HNR.out.2)
          have HCP : Hid ((tb.put c L S).2.2 = 0 → ∀ s', tb.cnt (tb.put c L S).1 s' = tb.cnt L s' + if s' = S then 1 else 0) := fun h s' => tb.cnt_put HNR.out.2 h
          have HD := Lib.hid (put_right c L S (.slice a n cap) _ HNR.out.2 (by unfold maxLen; omega) HSA.out.1)
          obtain ⟨⟨L2, nn, cd⟩, hL2⟩ : ∃ r, r = tb.put c L S := ⟨_, rfl⟩
          rw [← hL2] at HCD HRP HCP HD
          clear hL2
          unfold PutP at HD
          simp only at HD HCD HRP HCP
          obtain ⟨n2, hn2⟩ : ∃ n, n = L2.length := ⟨_, rfl⟩
          rw [← hn2] at HD
          have HN2 := Lib.hid hn2
          clear hn2
          go_wp2_with fail
          (with_reducible refine HD.out.mono ?_)
          rintro e w3 ⟨a3, c3, rfl, hv3, ht3, hb3⟩
          obtain ⟨y0, y1, y2, _, _, _, _⟩ := cl.three (w := wr) (w2 := w3) (t := 49) hb3
          have HS3 := Lib.hid (HSA.out.step hb3)
          have HO3 := Lib.hid (omap_step HOA.out hb3)
          have HA3 := Lib.hid (St.apart HSA.out hv3)
          have HAR := Lib.hid (apart2 HAP.out (W := wr.alloc (.cells #[.int .i64 kd, .int .i64 M, .string S] 49)) (by rw [World.size_alloc]; omega) hv3)
          have hne3 : ¬ w1.heap.size = w3.heap.size := by have := hb3.size; simp at this; omega
          have hne4 : ¬ w3.heap.size = w1.heap.size := fun e => hne3 e.symm
          have hBx : Below w3.heap.size w3 (w3.alloc (.cells #[.slice a3 n2 c3, .int .i64 c] 24)) := (Below.refl _ _).alloc (Nat.le_refl _) _
          clear q0 q1 f0 f1
          obtain ⟨_, _, q0, q1, f0, f1, _, _, hB3⟩ := HS3.out
          by_cases hcd : cd = 0
          · subst hcd
            have HS3b := Lib.hid (HS3.out.step hBx)
            have HO3b := Lib.hid (omap_step HO3.out hBx)
            have HT3b := Lib.hid (Cells.next ht3 hBx)
            obtain ⟨x0, x1, _, _, _⟩ := two (w := w3) (w2 := w3.alloc (.cells #[.slice a3 n2 c3, .int .i64 c] 24)) (t := 24) (Below.refl _ _)
            have HX := Lib.hid (And.intro x0 x1)
            have HMH := Lib.hid (omap_heap HO3b.out)
            clear x0 x1 ht3 hv3 hBx
            go_wp2_with (first
              | (at_lookup; refine wpList_lookup_own_int _ rfl _ _ 45 rfl 9 3 .i64 mlaw Try.underlying45 Try.underlying3 (zeroI _) (w1.heap.size + 1) N D rfl HO3b.out _ _ rfl HKEY.out ?_; intro cv hat hwc; have HCV := Lib.hid (CNT.get HCN.out hat); have hcv0 : 0 ≤ cv := (by rw [HCV.out]; exact (tb.cnt_bd HNR.out.2).1); have hcv1 : cv ≤ 1099511627776 := (by rw [HCV.out]; exact (tb.cnt_bd HNR.out.2).2); clear hat hwc)
              | (at_mapUpdate; refine wpList_mapUpdate_own _ rfl _ _ _ 45 rfl 9 3 mlaw Try.underlying45 _ (w1.heap.size + 1) N _ rfl HO3b.out (by unfold maxLen; omega) _ _ _ rfl rfl HKEY.out _ [] (plainElem_int Try.underlying3 (WalkArith.wf_i64 (by omega))) ?_))
            intro w4 hown4 hg4
            obtain ⟨es, clk, hmh⟩ := HMH.out
            have HS4 := Lib.hid (St.turn HS3b.out hg4 hmh (by omega) (by omega))
            have HT4 := Lib.hid (Tabs.turn HT3b.out hg4 hmh)
            have HS5 := Lib.hid (St.store HS4.out HT4.out HA3.out)
            have HO5 := Lib.hid (omap_set (B := w1.heap.size) (o := 1) (u := .int .i64 c) (omap_set (B := w1.heap.size) (o := 0) (u := .slice a3 n2 c3) hown4 (by omega)) (by omega))
            have HC5 := Lib.hid (CNT.put HCN.out (HO3.out.tidy mlaw) (L' := L2) (s := S) (x := cv + 1) (by rw [HCP.out trivial S, if_pos rfl, HCV.out]) (fun s' hs => by rw [HCP.out trivial s', if_neg hs]; omega))
            have x0 := hg4.cell HX.out.1 (show some w3.heap.size ≠ some (w1.heap.size + 1) from fun e => by have := Option.some.inj e; omega)
            have x1 := hg4.cell HX.out.2 (show some w3.heap.size ≠ some (w1.heap.size + 1) from fun e => by have := Option.some.inj e; omega)
            have hx4 : w3.heap.size < w4.heap.size := by have := hg4.size; rw [World.size_alloc] at this; omega
            clear q0 q1 f0 f1
            obtain ⟨_, _, q0, q1, f0, f1, _, _, hB4⟩ := HS4.out
            clear hown4 hg4 hmh
            go_wp2
            go_roundw
            case rel => exact ⟨i + 1, L2, a3, n2, c3, _, N + 1, by go_num, by omega, by omega, ⟨HN2.out, HRP.out⟩, HS5.out, HO5.out, HC5.out, HAR.out⟩
            case measure => simp [intOf]; omega
          · have hcb : (cd != 0) = true := by simpa using hcd
            have hcb2 : (cd == 0) = false := by simpa using hcd
            have hL : L = L2 := by
              rcases HCD.out with h | h
              · exact absurd h hcd
              · exact h.2.symm
            clear hcd
            have HS5 := Lib.hid ((St.store HS3.out ht3 HA3.out).step ((Below.refl _ _).alloc (Nat.le_refl _) (.cells #[.slice a3 n2 c3, .int .i64 c] 24)))
            have HO5 := Lib.hid ((omap_set (B := w1.heap.size) (o := 1) (u := .int .i64 c) (omap_set (B := w1.heap.size) (o := 0) (u := .slice a3 n2 c3) HO3.out (by omega)) (by omega)).alloc (.cells #[.slice a3 n2 c3, .int .i64 c] 24))
            have HC5 := Lib.hid (hL ▸ HCN.out : CNT D L2)
            clear ht3 hv3 hBx hL
            go_wp2
            go_roundw
            case rel => exact ⟨i + 1, L2, a3, n2, c3, D, N, by go_num, by omega, by omega, ⟨HN2.out, HRP.out⟩, HS5.out, HO5.out, HC5.out, HAR.out⟩
            case measure => simp [intOf]; omega
    · obtain rfl : i = q := by omega
      obtain ⟨r0, r1, rf0, rf1, _⟩ := HBOX.out _ _ _ _ _ HS.out
      obtain ⟨_, _, q0, q1, f0, f1, _, _, _⟩ := HS.out
      have HE := Lib.hid (HRET.out _ a n cap L D N true HNR.out.1 HNR.out.2 HS.out HO.out HCN.out HAP.out (fun _ => hq120))
      go_wp2
      refine bodyPost_ret (v := .tuple #[.agg #[.slice a n cap, .int .i64 c], .map (some (w1.heap.size + 1)), .bool true]) (by simp [results, Try.results28, go_sem, r0, r1]) rfl HE.out
end Go.Proofs.Ytagmlpenhogoeaa
