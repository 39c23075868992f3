/- Seek on anything, the program's and the document's. -/
import Derived.Test.YtniphmfkccaccaaRefDec
import Derived.Test.YtniphmfkccaccaaLawSeeks
import Derived.Deep.RegionHeld3
namespace Go.Proofs.Ytniphmfkccaccaa
open Go.RowKit Go.ChangeShapes at_ cl

open Classical in
noncomputable def seekV (c : Int) (D : ByteArray) (S : List (Int × Int)) (id : Int) : Int × Bool :=
  if h : ∃ K, GoodK c D S K then (if h.choose.countP (· < id) < h.choose.length then h.choose.getD (h.choose.countP (· < id)) 0 else 0, decide (h.choose.countP (· < id) < h.choose.length)) else (0, false)
theorem seekV_good {c : Int} {D : ByteArray} {S : List (Int × Int)} {K : List Int} (id : Int) (h : GoodK c D S K) :
    seekV c D S id = (if K.countP (· < id) < K.length then K.getD (K.countP (· < id)) 0 else 0, decide (K.countP (· < id) < K.length)) := by
  have he : ∃ K, GoodK c D S K := ⟨K, h⟩
  have hc : he.choose = K := good_one he.choose_spec h
  unfold seekV
  rw [dif_pos he, hc]
theorem seekV_bad {c : Int} {D : ByteArray} {S : List (Int × Int)} (id : Int) (h : ∀ K, ¬ GoodK c D S K) : seekV c D S id = (0, false) := by
  unfold seekV
  rw [dif_neg (fun ⟨K, hk⟩ => h K hk)]
theorem seekV_at {c : Int} {D : ByteArray} {S : List (Int × Int)} {K : List Int} {id : Int} {k : Nat} (h : GoodK c D S K) (hk : k < K.length) (h1 : ∀ j, j < k → K.getD j 0 < id) (h2 : ¬ K.getD k 0 < id) : seekV c D S id = (K.getD k 0, true) := by
  rw [seekV_good id h, cnt_first h.2.1 (by omega) h1 (fun _ => h2), if_pos hk, decide_eq_true hk]
theorem seekV_end {c : Int} {D : ByteArray} {S : List (Int × Int)} {K : List Int} {id : Int} (h : GoodK c D S K) (h1 : ∀ j, j < K.length → K.getD j 0 < id) : seekV c D S id = (0, false) := by
  rw [seekV_good id h, cnt_first h.2.1 (Nat.le_refl _) h1 (fun h => absurd h (Nat.lt_irrefl _)), if_neg (Nat.lt_irrefl _), decide_eq_false (Nat.lt_irrefl _)]
def SkP (r : Int × Bool) (w : World) (e : Ending) (w' : World) : Prop := e = .returned (.tuple #[.int .i64 r.1, .bool r.2]) ∧ Below w.heap.size w w'

set_option maxHeartbeats 800000 in
set_option maxRecDepth 100000 in
theorem seek_any (c : Int) (D : ByteArray) (S : List (Int × Int)) (id : Int) (vs : Value) (w : World) (hD : D.size ≤ 100000) (hS : S.length ≤ 400) (h : Skps w w.heap.size vs S) :
    Calls Try.prog 15 #[.agg #[.int .i64 c, .string D, vs], .int .i64 id] w (SkP (seekV c D S id) w) := by
  by_cases hg : ∃ K, GoodK c D S K
  · obtain ⟨K, hK⟩ := hg
    rw [seekV_good id hK]
    obtain ⟨h1, h2, rfl, rfl, rfl⟩ := hK
    exact (seek_right K id vs w h1 h2 h).mono fun e w' h => h
  · rw [seekV_bad id (fun K hK => hg ⟨K, hK⟩)]
    have hA : Below w.heap.size w (w.alloc (.cells #[.int .i64 c, .string D, vs] 26)) := (Below.refl _ _).alloc (Nat.le_refl _) _
    have HD := Lib.hid (decode_full c D S vs _ hD hS (h.next hA))
    have HNG : Hid (∀ K, ¬ GoodK c D S K) := fun K hK => hg ⟨K, hK⟩
    obtain ⟨ao, cap, rfl, _⟩ := h.form
    clear h hg
    go_enter Try.func15, Try.ntmps15
    go_wp2_with fail
    (with_reducible refine HD.out.mono ?_)
    intro e w1 h1
    rcases h1 with ⟨rfl, _, hb1⟩ | ⟨v, K, _, hk, _⟩
    · have hb := hA.trans (hb1.mono hA.size)
      go_wp2
      go_ret2
      exact ⟨rfl, hb⟩
    · exact absurd hk (HNG.out K)

set_option maxHeartbeats 800000 in
set_option maxRecDepth 100000 in
theorem rright_any (c : Int) (D : ByteArray) (S : List (Int × Int)) (vs : Value) (w : World) (hD : D.size ≤ 100000) (hS : S.length ≤ 400) (h : Skps w w.heap.size vs S) :
    Calls Try.prog 19 #[.agg #[.int .i64 c, .string D, vs]] w (Said (goodB c D S) w) := by
  have hA : Below w.heap.size w (w.alloc (.cells #[.int .i64 c, .string D, vs] 26)) := (Below.refl _ _).alloc (Nat.le_refl _) _
  have HD := Lib.hid (rdecode_any c D S vs _ hD hS (h.next hA))
  obtain ⟨ao, cap, rfl, _⟩ := h.form
  have HT : Hid (∀ K W', GoodK c D S K → Below w.heap.size w W' → Said (goodB c D S) w (.returned (.bool true)) W') := fun K W' hk hb => ⟨by rw [goodB_true hk], hb⟩
  have HF : Hid (∀ W', (∀ K, ¬ GoodK c D S K) → Below w.heap.size w W' → Said (goodB c D S) w (.returned (.bool false)) W') := fun W' hk hb => ⟨by rw [goodB_false hk], hb⟩
  clear h
  go_enter Try.func19, Try.ntmps19
  go_wp2_with fail
  (with_reducible refine HD.out.mono ?_)
  intro e w1 h1
  rcases h1 with ⟨rfl, hk, hb1⟩ | ⟨v, K, rfl, hk, ho, hb1⟩
  · have hb := hA.trans (hb1.mono hA.size)
    have HK := Lib.hid hk
    clear hk
    go_wp2
    go_ret
    exact HF.out _ HK.out hb
  · have hb := hA.trans (hb1.mono hA.size)
    have HK := Lib.hid hk
    obtain ⟨a1, c1, rfl⟩ := own_slice ho
    clear hk ho
    go_wp2
    go_ret
    exact HT.out K _ HK.out hb

/-- the block's box, later -/
def BoxB (w : World) (x y z : Value) (w' : World) : Prop := w'.cell? ⟨w.heap.size, 0, none⟩ = some x ∧ w'.cell? ⟨w.heap.size, 1, none⟩ = some y ∧ w'.cell? ⟨w.heap.size, 2, none⟩ = some z ∧ Below w.heap.size w w' ∧ w.heap.size + 1 ≤ w'.heap.size
theorem BoxB.start (w : World) (x y z : Value) (t : TypeId) : BoxB w x y z (w.alloc (.cells #[x, y, z] t)) := by
  obtain ⟨a, b, c, _, _, _, _⟩ := cl.three (w := w) (x := x) (y := y) (z := z) (t := t) (Below.refl _ _)
  exact ⟨a, b, c, (Below.refl _ _).alloc (Nat.le_refl _) _, by rw [World.size_alloc]; exact Nat.le_refl _⟩
theorem BoxB.step {w W W' : World} {x y z : Value} (h : BoxB w x y z W) (hb : Below W.heap.size W W') : BoxB w x y z W' := by
  obtain ⟨a, b, c, d, e⟩ := h
  have hlt : w.heap.size < W.heap.size := e
  exact ⟨(hb.cell (p := ⟨w.heap.size, 0, none⟩) hlt).trans a, (hb.cell (p := ⟨w.heap.size, 1, none⟩) hlt).trans b, (hb.cell (p := ⟨w.heap.size, 2, none⟩) hlt).trans c, d.trans (hb.mono (by omega)), by have := hb.size; omega⟩
theorem BoxB.drew {w W : World} {x y z : Value} (h : BoxB w x y z W) : BoxB w x y z W.drew := h.step (below_drewN (Below.refl _ _) 1)
def OneG (K : List Int) (i mm : Nat) (W : World) (e : Ending) (w' : World) : Prop := ∃ (b o c : Nat) (p : Int), e = .returned (.tuple #[.slice (some ⟨b, o, none⟩) mm c, .int .i64 p, .int .i64 0]) ∧ Hid (∀ j, j < mm → w'.cell? ⟨b, o + j, none⟩ = some (.int .i64 (K.getD (16 * i + j) 0))) ∧ Below W.heap.size W w'
/-- the block's box, and a skip's two cells, later -/
def BoxS (w : World) (x y z : Value) (a0 a1 : Addr) (u0 u1 : Value) (w' : World) : Prop := w'.cell? ⟨w.heap.size, 0, none⟩ = some x ∧ w'.cell? ⟨w.heap.size, 1, none⟩ = some y ∧ w'.cell? ⟨w.heap.size, 2, none⟩ = some z ∧ w'.cell? a0 = some u0 ∧ w'.cell? a1 = some u1 ∧ Below w.heap.size w w' ∧ w.heap.size + 1 ≤ w'.heap.size
theorem BoxS.step {w W W' : World} {x y z : Value} {b o0 o1 : Nat} {u0 u1 : Value} (h : BoxS w x y z ⟨b, o0, none⟩ ⟨b, o1, none⟩ u0 u1 W) (hB : b < w.heap.size) (hb : Below W.heap.size W W') : BoxS w x y z ⟨b, o0, none⟩ ⟨b, o1, none⟩ u0 u1 W' := by
  obtain ⟨p0, p1, p2, e0, e1, d, s⟩ := h
  obtain ⟨q0, q1, q2, d', s'⟩ := BoxB.step ⟨p0, p1, p2, d, s⟩ hb
  exact ⟨q0, q1, q2, (hb.cell (p := ⟨b, o0, none⟩) (show b < W.heap.size by omega)).trans e0, (hb.cell (p := ⟨b, o1, none⟩) (show b < W.heap.size by omega)).trans e1, d', s'⟩

set_option maxHeartbeats 3200000 in
set_option maxRecDepth 100000 in
theorem rseek_good (K : List Int) (S : List (Int × Int)) (id : Int) (vs : Value) (w : World) (hl : K.length ≤ 4000) (hr : bm.Rise K K.length) (hSK : S = bm.skp K K.length) (h : Skps w w.heap.size vs S) :
    Calls Try.prog 16 #[.agg #[.int .i64 (K.length : Int), .string (kit.str (bm.dat K K.length)), vs], .int .i64 id] w (SkP (seekV (K.length : Int) (kit.str (bm.dat K K.length)) S id) w) := by
  have hgood : GoodK (K.length : Int) (kit.str (bm.dat K K.length)) S K := ⟨hl, hr, rfl, rfl, hSK⟩
  have hsz : (kit.str (bm.dat K K.length)).size ≤ 100000 := by rw [kit.str_size]; have := bm.dat_len hr; omega
  have hq := bm.skp_len K K.length
  rw [← hSK] at hq
  have HRT : Hid (∀ W, Below w.heap.size w W → Calls Try.prog 19 #[.agg #[.int .i64 (K.length : Int), .string (kit.str (bm.dat K K.length)), vs]] W (Said true W)) := fun W hW => by
    have h1 := rright_any (K.length : Int) (kit.str (bm.dat K K.length)) S vs W hsz (by rw [hq]; omega) (h.next hW)
    rw [goodB_true hgood] at h1
    exact h1
  have HSG : Hid (∀ i, 16 * i < K.length → S.getD i (0, 0) = (K.getD (16 * i) 0, (((bm.dat K (16 * i)).length : Nat) : Int))) := by rw [hSK]; exact skp_get K _
  have HONE : Hid (∀ (i mm : Nat) (W : World), 16 * i < K.length → mm = min 16 (K.length - 16 * i) → Calls Try.prog 26 #[.string (kit.str (bm.dat K K.length)), .agg #[.int .i64 (K.getD (16 * i) 0), .int .i64 (((bm.dat K (16 * i)).length : Nat) : Int)], .int .i64 (min 16 ((K.length : Int) - (i : Int) * 16))] W (OneG K i mm W)) := fun i mm W hi hmm => by
    have h1 := rone_any (kit.str (bm.dat K K.length)) (K.getD (16 * i) 0) (((bm.dat K (16 * i)).length : Nat) : Int) (mm - 1) W hsz (by omega)
    rw [show (((mm - 1 : Nat) : Int) + 1) = min 16 ((K.length : Int) - (i : Int) * 16) by omega, show mm - 1 + 1 = mm by omega, kit.bytes_str _ (bm.dat_byte K _), bm.one_comp hr (by omega) (mm - 1) (by omega) (by omega), show mm - 1 + 1 = mm by omega] at h1
    refine h1.mono fun e w' hh => ?_
    rcases hh with ⟨hno, _⟩ | ⟨v, L, p, hL, he, _, ho, hb⟩
    · cases hno
    · simp only [Option.some.injEq, Prod.mk.injEq] at hL
      obtain ⟨rfl, _⟩ := hL
      have hlen : ((K.drop (16 * i)).take mm).length = mm := by rw [List.length_take, List.length_drop]; omega
      obtain ⟨ao, cap, rfl, _, _, hc⟩ := at_.own (own_cast hlen.symm ho)
      obtain ⟨b, o, rfl, _, hcell⟩ := hc (by omega)
      refine ⟨b, o, cap, p, by rw [he, hlen], fun j hj => ?_, hb⟩
      rw [hcell j (by omega)]
      congr 2
      simp [List.getD, hj]
  have HAT : Hid (∀ k, k < K.length → (∀ j, j < k → K.getD j 0 < id) → ¬ K.getD k 0 < id → seekV (K.length : Int) (kit.str (bm.dat K K.length)) S id = (K.getD k 0, true)) := fun k h1 h2 h3 => seekV_at hgood h1 h2 h3
  have HEND : Hid ((∀ j, j < K.length → K.getD j 0 < id) → seekV (K.length : Int) (kit.str (bm.dat K K.length)) S id = (0, false)) := fun h1 => seekV_end hgood h1
  have HLT : Hid (∀ j i, i < j → j < K.length → K.getD i 0 < K.getD j 0) := rise_lt hr
  obtain ⟨V, hV⟩ : ∃ V, V = seekV (K.length : Int) (kit.str (bm.dat K K.length)) S id := ⟨_, rfl⟩
  rw [← hV] at HAT HEND ⊢
  obtain ⟨D, hD⟩ : ∃ D, D = kit.str (bm.dat K K.length) := ⟨_, rfl⟩
  rw [← hD] at HRT HONE ⊢
  obtain ⟨n, hn⟩ : ∃ n, n = K.length := ⟨_, rfl⟩
  rw [← hn] at HRT HONE HSG HAT HEND HLT hq hl ⊢
  have HN := Lib.hid hn
  obtain ⟨q0, hq0⟩ : ∃ q, q = S.length := ⟨_, rfl⟩
  have HQ0 := Lib.hid hq0
  rw [← hq0] at hq
  have HQQ := Lib.hid hq
  have hq4 : q0 ≤ 251 := by omega
  obtain ⟨ao, cap, rfl⟩ : ∃ ao cap, vs = .slice ao q0 cap := by
    obtain ⟨ao, cap, e, _⟩ := h.form
    exact ⟨ao, cap, by rw [hq0]; exact e⟩
  have HC := Lib.hid h
  have hB0 := BoxB.start w (.int .i64 n) (.string D) (.slice ao q0 cap) 26
  have HR1 := Lib.hid (HRT.out _ hB0.2.2.2.1)
  have HB0 := Lib.hid hB0
  clear hV hD hn hq hq0 h hr hSK hgood hsz hB0
  go_enter Try.func16, Try.ntmps16
  go_wp2_with fail
  (with_reducible refine HR1.out.mono ?_)
  rintro e w1 ⟨rfl, hb1⟩
  have hB1 := HB0.out.step hb1
  have HB1 := Lib.hid hB1
  obtain ⟨c0, c1, c2, hbl1, hz1⟩ := hB1
  go_wp2
  go_loop [6] (fun u6 => ∃ k : Nat, u6 = .int .i64 k ∧ (k ≤ q0 ∧ (0 < q0 → k < q0)) ∧ Hid (∀ j, j < 16 * k → j < n → K.getD j 0 < id)) (fun u6 => q0 - (intOf u6).toNat)
  case atStart => exact ⟨0, rfl, ⟨by omega, fun h => h⟩, fun j hj => absurd hj (by omega)⟩
  case round =>
    obtain ⟨k, rfl, ⟨hk, hk1⟩, HLS⟩ := hrel
    by_cases hk2 : k + 1 < q0
    · have hkI : (k : Int) + 1 < (q0 : Int) := by omega
      have hkn : 16 * (k + 1) < n := by have := HQQ.out; omega
      obtain ⟨b, off, hao, hB, p0, _⟩ := Skps.get HC.out HQ0.out hk2
      have e0 := (hbl1.cell (p := ⟨b, off + (k + 1) * 2, none⟩) hB).trans p0
      rw [HSG.out (k + 1) hkn] at e0
      simp only at e0
      have HLK : Hid (∀ j, j < 16 * (k + 1) → K.getD j 0 < K.getD (16 * (k + 1)) 0) := fun j hj => HLT.out _ _ hj hkn
      obtain ⟨x, hx⟩ : ∃ x, x = K.getD (16 * (k + 1)) 0 := ⟨_, rfl⟩
      rw [← hx] at e0 HLK
      clear hx p0
      by_cases hxi : x ≤ id
      · subst hao
        go_wp2
        go_round
        case rel => exact ⟨k + 1, by go_num, ⟨by omega, fun _ => hk2⟩, fun j hj _ => by have := HLK.out j hj; omega⟩
        case measure => simp [intOf]; omega
      · subst hao
        clear HLK
        go_wp2
        go_loopw [7, 8, 9, 10, 12] (fun u7 _ _ _ _ wr => ∃ i : Nat, u7 = .int .i64 i ∧ i ≤ q0 ∧ Hid (∀ j, j < 16 * i → j < n → K.getD j 0 < id) ∧ BoxB w (.int .i64 n) (.string D) (.slice (some ⟨b, off, none⟩) q0 cap) wr) (fun u7 _ _ _ _ _ => q0 - (intOf u7).toNat)
        case atStart => exact ⟨k, rfl, hk, HLS.out, HB1.out⟩
        case round =>
          obtain ⟨i, rfl, hi, HLS2, hBr⟩ := hrel
          have HBr := Lib.hid hBr
          obtain ⟨d0, d1, d2, hbr, hzr⟩ := hBr
          by_cases hlt : i < q0
          · have hin : 16 * i < n := by have := HQQ.out; omega
            have hiI : (i : Int) < (q0 : Int) := by omega
            obtain ⟨b, off, hsb, hB, p0, p1⟩ := Skps.get HC.out HQ0.out hlt
            simp only [Option.some.injEq, Addr.mk.injEq] at hsb
            obtain ⟨rfl, rfl, _⟩ := hsb
            have e0 := (hbr.cell (p := ⟨b, off + i * 2, none⟩) hB).trans p0
            have e1 := (hbr.cell (p := ⟨b, off + i * 2 + 1, none⟩) hB).trans p1
            rw [HSG.out i hin] at e0 e1
            simp only at e0 e1
            clear p0 p1
            obtain ⟨mm, hmm⟩ : ∃ mm, mm = min 16 (n - 16 * i) := ⟨_, rfl⟩
            have HON : Hid (∀ W, _) := fun W => HONE.out i mm W hin hmm
            obtain ⟨x, hx⟩ : ∃ x, x = K.getD (16 * i) 0 := ⟨_, rfl⟩
            obtain ⟨a, ha⟩ : ∃ a, a = (bm.dat K (16 * i)).length := ⟨_, rfl⟩
            rw [← hx, ← ha] at HON
            rw [← hx] at e0
            rw [← ha] at e1
            have hmm16 : mm ≤ 16 := by omega
            have HMM := Lib.hid hmm
            clear hx ha hmm
            have w16 : IntKind.i64.wrap ((i : Int) * 16) = (i : Int) * 16 := IntWalk.i64_in _ (by omega)
            have wn16 : IntKind.i64.wrap ((n : Int) - (i : Int) * 16) = (n : Int) - (i : Int) * 16 := IntWalk.i64_in _ (by omega)
            have HBS : Hid (BoxS w (.int .i64 n) (.string D) (.slice (some ⟨b, off, none⟩) q0 cap) ⟨b, off + i * 2, none⟩ ⟨b, off + i * 2 + 1, none⟩ (.int .i64 x) (.int .i64 a) wr) := ⟨d0, d1, d2, e0, e1, hbr, hzr⟩
            go_wp2_with fail
            go_region_held3 (fun w' => w'.cell? ⟨w.heap.size, 0, none⟩ = some (.int .i64 n) ∧ w'.cell? ⟨w.heap.size, 1, none⟩ = some (.string D) ∧ w'.cell? ⟨w.heap.size, 2, none⟩ = some (.slice (some ⟨b, off, none⟩) q0 cap) ∧ w'.cell? ⟨b, off + i * 2, none⟩ = some (.int .i64 x) ∧ w'.cell? ⟨b, off + i * 2 + 1, none⟩ = some (.int .i64 a) ∧ Below w.heap.size w w' ∧ w.heap.size + 1 ≤ w'.heap.size)
              (first
                | exact BoxS.step HBS.out hB (below_drewN (Below.refl _ _) 1)
                | exact BoxS.step (by assumption) hB hbK
                | assumption)
              (first
                | (go_at_call 26; (with_reducible refine (HON.out _).mono ?_); rintro e wK ⟨vb, vo, vc, vp, rfl, HV, hbK⟩)
                | fail)
            have hBK : BoxS w (.int .i64 n) (.string D) (.slice (some ⟨b, off, none⟩) q0 cap) ⟨b, off + i * 2, none⟩ ⟨b, off + i * 2 + 1, none⟩ (.int .i64 x) (.int .i64 a) wK := by assumption
            have HBK : Hid (BoxB w (.int .i64 n) (.string D) (.slice (some ⟨b, off, none⟩) q0 cap) wK) := ⟨hBK.1, hBK.2.1, hBK.2.2.1, hBK.2.2.2.2.2.1, hBK.2.2.2.2.2.2⟩
            go_wp2
            go_loop [12, 63] (fun _ u => ∃ t : Nat, u = .int .i64 t ∧ t ≤ mm ∧ Hid (∀ j, j < 16 * i + t → j < n → K.getD j 0 < id)) (fun _ u => mm - (intOf u).toNat)
            case atStart => exact ⟨0, rfl, by omega, HLS2.out⟩
            case round =>
              obtain ⟨t, rfl, ht, HT⟩ := hrel
              by_cases htm : t < mm
              · have htI : (t : Int) < (mm : Int) := by omega
                have ct := HV.out t htm
                have hjn : 16 * i + t < n := by have := HMM.out; omega
                have HATT := Lib.hid (HAT.out (16 * i + t) hjn (fun j hj => HT.out j hj (by omega)))
                obtain ⟨z, hz⟩ : ∃ z, z = K.getD (16 * i + t) 0 := ⟨_, rfl⟩
                rw [← hz] at ct HATT
                have HZ := Lib.hid hz
                clear hz
                by_cases hzi : z < id
                · have HT2 : Hid (∀ j, j < 16 * i + (t + 1) → j < n → K.getD j 0 < id) := fun j hj hjn => by
                    by_cases e : j = 16 * i + t
                    · subst e; rw [← HZ.out]; exact hzi
                    · exact HT.out j (by omega) hjn
                  have hzi2 : ¬ id ≤ z := by omega
                  go_wp2
                  go_round
                  case rel => exact ⟨t + 1, by go_num, by omega, HT2⟩
                  case measure => simp [intOf]; omega
                · have HVE : Hid (V = (z, true)) := HATT.out (by omega)
                  have hzi2 : id ≤ z := by omega
                  clear hzi
                  go_wp2
                  go_ret2
                  show SkP V w _ _
                  rw [HVE.out]
                  exact ⟨rfl, HBK.out.2.2.2.1⟩
              · obtain rfl : t = mm := by omega
                have HT2 : Hid (∀ j, j < 16 * (i + 1) → j < n → K.getD j 0 < id) := fun j hj hjn => HT.out j (by have := HMM.out; omega) hjn
                go_wp2
                go_roundw
                case rel => exact ⟨i + 1, by go_num, by omega, HT2, HBK.out⟩
                case measure => simp [intOf]; omega
          · obtain rfl : i = q0 := by omega
            have HVE : Hid (V = (0, false)) := HEND.out (fun j hj => HLS2.out j (by have := HQQ.out; omega) hj)
            go_wp2
            go_ret2
            show SkP V w _ _
            rw [HVE.out]
            exact ⟨rfl, hbr⟩
    · have hkI : ¬ (k : Int) + 1 < (q0 : Int) := by omega
      go_wp2
      go_loopw [7, 8, 9, 10, 12] (fun u7 _ _ _ _ wr => ∃ i : Nat, u7 = .int .i64 i ∧ i ≤ q0 ∧ Hid (∀ j, j < 16 * i → j < n → K.getD j 0 < id) ∧ BoxB w (.int .i64 n) (.string D) (.slice ao q0 cap) wr) (fun u7 _ _ _ _ _ => q0 - (intOf u7).toNat)
      case atStart => exact ⟨k, rfl, hk, HLS.out, HB1.out⟩
      case round =>
        obtain ⟨i, rfl, hi, HLS2, hBr⟩ := hrel
        have HBr := Lib.hid hBr
        obtain ⟨d0, d1, d2, hbr, hzr⟩ := hBr
        by_cases hlt : i < q0
        · have hin : 16 * i < n := by have := HQQ.out; omega
          have hiI : (i : Int) < (q0 : Int) := by omega
          obtain ⟨b, off, rfl, hB, p0, p1⟩ := Skps.get HC.out HQ0.out hlt
          have e0 := (hbr.cell (p := ⟨b, off + i * 2, none⟩) hB).trans p0
          have e1 := (hbr.cell (p := ⟨b, off + i * 2 + 1, none⟩) hB).trans p1
          rw [HSG.out i hin] at e0 e1
          simp only at e0 e1
          clear p0 p1
          obtain ⟨mm, hmm⟩ : ∃ mm, mm = min 16 (n - 16 * i) := ⟨_, rfl⟩
          have HON : Hid (∀ W, _) := fun W => HONE.out i mm W hin hmm
          obtain ⟨x, hx⟩ : ∃ x, x = K.getD (16 * i) 0 := ⟨_, rfl⟩
          obtain ⟨a, ha⟩ : ∃ a, a = (bm.dat K (16 * i)).length := ⟨_, rfl⟩
          rw [← hx, ← ha] at HON
          rw [← hx] at e0
          rw [← ha] at e1
          have hmm16 : mm ≤ 16 := by omega
          have HMM := Lib.hid hmm
          clear hx ha hmm
          have w16 : IntKind.i64.wrap ((i : Int) * 16) = (i : Int) * 16 := IntWalk.i64_in _ (by omega)
          have wn16 : IntKind.i64.wrap ((n : Int) - (i : Int) * 16) = (n : Int) - (i : Int) * 16 := IntWalk.i64_in _ (by omega)
          have HBS : Hid (BoxS w (.int .i64 n) (.string D) (.slice (some ⟨b, off, none⟩) q0 cap) ⟨b, off + i * 2, none⟩ ⟨b, off + i * 2 + 1, none⟩ (.int .i64 x) (.int .i64 a) wr) := ⟨d0, d1, d2, e0, e1, hbr, hzr⟩
          go_wp2_with fail
          go_region_held3 (fun w' => w'.cell? ⟨w.heap.size, 0, none⟩ = some (.int .i64 n) ∧ w'.cell? ⟨w.heap.size, 1, none⟩ = some (.string D) ∧ w'.cell? ⟨w.heap.size, 2, none⟩ = some (.slice (some ⟨b, off, none⟩) q0 cap) ∧ w'.cell? ⟨b, off + i * 2, none⟩ = some (.int .i64 x) ∧ w'.cell? ⟨b, off + i * 2 + 1, none⟩ = some (.int .i64 a) ∧ Below w.heap.size w w' ∧ w.heap.size + 1 ≤ w'.heap.size)
            (first
              | exact BoxS.step HBS.out hB (below_drewN (Below.refl _ _) 1)
              | exact BoxS.step (by assumption) hB hbK
              | assumption)
            (first
              | (go_at_call 26; (with_reducible refine (HON.out _).mono ?_); rintro e wK ⟨vb, vo, vc, vp, rfl, HV, hbK⟩)
              | fail)
          have hBK : BoxS w (.int .i64 n) (.string D) (.slice (some ⟨b, off, none⟩) q0 cap) ⟨b, off + i * 2, none⟩ ⟨b, off + i * 2 + 1, none⟩ (.int .i64 x) (.int .i64 a) wK := by assumption
          have HBK : Hid (BoxB w (.int .i64 n) (.string D) (.slice (some ⟨b, off, none⟩) q0 cap) wK) := ⟨hBK.1, hBK.2.1, hBK.2.2.1, hBK.2.2.2.2.2.1, hBK.2.2.2.2.2.2⟩
          go_wp2
          go_loop [12, 63] (fun _ u => ∃ t : Nat, u = .int .i64 t ∧ t ≤ mm ∧ Hid (∀ j, j < 16 * i + t → j < n → K.getD j 0 < id)) (fun _ u => mm - (intOf u).toNat)
          case atStart => exact ⟨0, rfl, by omega, HLS2.out⟩
          case round =>
            obtain ⟨t, rfl, ht, HT⟩ := hrel
            by_cases htm : t < mm
            · have htI : (t : Int) < (mm : Int) := by omega
              have ct := HV.out t htm
              have hjn : 16 * i + t < n := by have := HMM.out; omega
              have HATT := Lib.hid (HAT.out (16 * i + t) hjn (fun j hj => HT.out j hj (by omega)))
              obtain ⟨z, hz⟩ : ∃ z, z = K.getD (16 * i + t) 0 := ⟨_, rfl⟩
              rw [← hz] at ct HATT
              have HZ := Lib.hid hz
              clear hz
              by_cases hzi : z < id
              · have HT2 : Hid (∀ j, j < 16 * i + (t + 1) → j < n → K.getD j 0 < id) := fun j hj hjn => by
                  by_cases e : j = 16 * i + t
                  · subst e; rw [← HZ.out]; exact hzi
                  · exact HT.out j (by omega) hjn
                have hzi2 : ¬ id ≤ z := by omega
                go_wp2
                go_round
                case rel => exact ⟨t + 1, by go_num, by omega, HT2⟩
                case measure => simp [intOf]; omega
              · have HVE : Hid (V = (z, true)) := HATT.out (by omega)
                have hzi2 : id ≤ z := by omega
                clear hzi
                go_wp2
                go_ret2
                show SkP V w _ _
                rw [HVE.out]
                exact ⟨rfl, HBK.out.2.2.2.1⟩
            · obtain rfl : t = mm := by omega
              have HT2 : Hid (∀ j, j < 16 * (i + 1) → j < n → K.getD j 0 < id) := fun j hj hjn => HT.out j (by have := HMM.out; omega) hjn
              go_wp2
              go_roundw
              case rel => exact ⟨i + 1, by go_num, by omega, HT2, HBK.out⟩
              case measure => simp [intOf]; omega
        · obtain rfl : i = q0 := by omega
          have HVE : Hid (V = (0, false)) := HEND.out (fun j hj => HLS2.out j (by have := HQQ.out; omega) hj)
          go_wp2
          go_ret2
          show SkP V w _ _
          rw [HVE.out]
          exact ⟨rfl, hbr⟩

set_option maxHeartbeats 800000 in
set_option maxRecDepth 100000 in
theorem rseek_any (c : Int) (D : ByteArray) (S : List (Int × Int)) (id : Int) (vs : Value) (w : World) (hD : D.size ≤ 100000) (hS : S.length ≤ 400) (h : Skps w w.heap.size vs S) :
    Calls Try.prog 16 #[.agg #[.int .i64 c, .string D, vs], .int .i64 id] w (SkP (seekV c D S id) w) := by
  by_cases hg : ∃ K, GoodK c D S K
  · obtain ⟨K, hK⟩ := hg
    obtain ⟨h1, h2, rfl, rfl, h5⟩ := hK
    exact rseek_good K S id vs w h1 h2 h5 h
  · have hng : ∀ K, ¬ GoodK c D S K := fun K hK => hg ⟨K, hK⟩
    rw [seekV_bad id hng]
    have hA : Below w.heap.size w (w.alloc (.cells #[.int .i64 c, .string D, vs] 26)) := (Below.refl _ _).alloc (Nat.le_refl _) _
    have h1 := rright_any c D S vs _ hD hS (h.next hA)
    rw [goodB_false hng] at h1
    have HD := Lib.hid h1
    obtain ⟨ao, cap, rfl, _⟩ := h.form
    clear h hg h1 hng
    go_enter Try.func16, Try.ntmps16
    go_wp2_with fail
    (with_reducible refine HD.out.mono ?_)
    rintro e w1 ⟨rfl, hb1⟩
    have hb := hA.trans (hb1.mono hA.size)
    go_wp2
    go_ret2
    exact ⟨rfl, hb⟩
end Go.Proofs.Ytniphmfkccaccaa
