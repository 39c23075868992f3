/- texts put together: MdAw28, MdFar, MdM2. -/
import Derived.Test.YtnbdcnbhejfdhaaGreatLv04
import Derived.Test.YtnbdcnbhejfdhaaGreatLv07
namespace Go.Proofs.YtnbdcnbhejfdhaaGreat
open Go Go.RowKit Go.ChangeShapes cl Go.Sort
set_option maxHeartbeats 1600000 in
set_option maxRecDepth 100000 in
theorem fact_any (k n m : Int) (w : World) : Calls Tryz.prog 28 #[.int .i64 k, .int .i64 n, .int .i64 m, .int .i64 0] w fun e w' => e = .returned (.agg #[.int .i64 k, .string sA, .int .i64 n, .int .i64 m, .int .i64 3, .slice none 0 0, .slice none 0 0, .int .i64 0, .bool false]) ∧ Below w.heap.size w w' := by
 go_enter Tryz.func28, Tryz.ntmps28
 go_wp2
 refine bodyPost_ret (v := .agg #[.int .i64 k, .string sA, .int .i64 n, .int .i64 m, .int .i64 3, .slice none 0 0, .slice none 0 0, .int .i64 0, .bool false]) ?_ rfl ⟨rfl, below1.alloc (by simp) _⟩
 simp only [results, Tryz.results28]
 go_simp
 rfl
def yA : Fct := ⟨1, sA, (0, 1), 3⟩
def yB : Fct := ⟨1, sA, (1, 1), 3⟩
def yC : Fct := ⟨2, sA, (0, 1), 3⟩
def dA : List Value := [.int .i64 1, .string sA, .int .i64 0, .int .i64 1, .int .i64 3, .slice none 0 0, .slice none 0 0, .int .i64 0, .bool false]
def dB : List Value := [.int .i64 1, .string sA, .int .i64 1, .int .i64 1, .int .i64 3, .slice none 0 0, .slice none 0 0, .int .i64 0, .bool false]
def dC : List Value := [.int .i64 2, .string sA, .int .i64 0, .int .i64 1, .int .i64 3, .slice none 0 0, .slice none 0 0, .int .i64 0, .bool false]
def ThrF (W : World) (h : Nat) : Prop := W.heap[h]? = some (.cells #[.int .i64 1, .string sA, .int .i64 0, .int .i64 1, .int .i64 3, .slice none 0 0, .slice none 0 0, .int .i64 0, .bool false, .int .i64 1, .string sA, .int .i64 1, .int .i64 1, .int .i64 3, .slice none 0 0, .slice none 0 0, .int .i64 0, .bool false, .int .i64 2, .string sA, .int .i64 0, .int .i64 1, .int .i64 3, .slice none 0 0, .slice none 0 0, .int .i64 0, .bool false] 40)
section
variable {W W' : World} {h : Nat}
theorem ThrF.next (hh : ThrF W h) (hb : Below W.heap.size W W') : ThrF W' h := (hb.block _ (lt_of_block hh)).trans hh
theorem thr_rows (hh : ThrF W h) : Fcts W W.heap.size (.slice (some ⟨h, 0, none⟩) 3 3) [yA, yB, yC] := by
 refine ⟨[dA, dB, dC], rfl, fun j c x hc hx => ?_, ?_⟩
 ·
  rcases j with _ | _ | _ | j
  ·
   obtain rfl : dA = c := by simpa using hc
   obtain rfl : yA = x := by simpa using hx
   exact ⟨rfl, _, _, _, _, _, _, _, _, rfl⟩
  ·
   obtain rfl : dB = c := by simpa using hc
   obtain rfl : yB = x := by simpa using hx
   exact ⟨rfl, _, _, _, _, _, _, _, _, rfl⟩
  ·
   obtain rfl : dC = c := by simpa using hc
   obtain rfl : yC = x := by simpa using hx
   exact ⟨rfl, _, _, _, _, _, _, _, _, rfl⟩
  ·
   simp at hc
 ·
  exact ⟨rfl, some ⟨h, 0, none⟩, 3, rfl, ⟨(fun e => by cases e), by simp⟩, by unfold maxLen; simp, fun _ => ⟨h, 0, rfl, lt_of_block hh, fun i u hu => by rw [Nat.zero_add]; exact boxc hh i u (by simpa [dA, dB, dC, ← Array.getElem?_toList] using hu)⟩⟩
theorem last_row (hh : ThrF W h) : Fcts W W.heap.size (.slice (some ⟨h, 18, none⟩) 1 1) [yC] := by
 refine ⟨[dC], rfl, fun j c x hc hx => ?_, ?_⟩
 ·
  rcases j with _ | j
  ·
   obtain rfl : dC = c := by simpa using hc
   obtain rfl : yC = x := by simpa using hx
   exact ⟨rfl, _, _, _, _, _, _, _, _, rfl⟩
  ·
   simp at hc
 ·
  refine ⟨rfl, some ⟨h, 18, none⟩, 1, rfl, ⟨(fun e => by cases e), by simp⟩, by unfold maxLen; simp, fun _ => ⟨h, 18, rfl, lt_of_block hh, fun i u hu => ?_⟩⟩
  have hi : i < 9 := (List.getElem?_eq_some_iff.1 hu).1
  refine boxc hh (18 + i) u ?_
  rcases (by omega : i = 0 ∨ i = 1 ∨ i = 2 ∨ i = 3 ∨ i = 4 ∨ i = 5 ∨ i = 6 ∨ i = 7 ∨ i = 8) with rfl | rfl | rfl | rfl | rfl | rfl | rfl | rfl | rfl <;> exact hu
theorem wfy : FWf yA ∧ FWf yB ∧ FWf yC := by
 refine ⟨⟨?_, ?_⟩, ⟨?_, ?_⟩, ?_, ?_⟩ <;> exact WalkArith.wf_i64 (by decide)
theorem wf3 : ∀ f ∈ [yA, yB, yC], FWf f := by
 intro f hf
 simp only [List.mem_cons, List.not_mem_nil, or_false] at hf
 rcases hf with rfl | rfl | rfl
 ·
  exact wfy.1
 ·
  exact wfy.2.1
 ·
  exact wfy.2.2
theorem thr_dots (hh : ThrF W h) : Calls Tryz.prog 20 #[.slice (some ⟨h, 0, none⟩) 3 3] W (Said true W) := by
 have := dots_any [yA, yB, yC] _ W (thr_rows hh) wf3 (by simp)
 have e : (dotsF [] [yA, yB, yC]).isSome = true := by decide
 rwa [e] at this
theorem last_dots (hh : ThrF W h) : Calls Tryz.prog 20 #[.slice (some ⟨h, 18, none⟩) 1 1] W (Said false W) := by
 have := dots_any [yC] _ W (last_row hh) (by intro f hf; rw [List.mem_singleton.1 hf]; exact wfy.2.2) (by simp)
 have e : (dotsF [] [yC]).isSome = false := by decide
 rwa [e] at this
def yL : Lv := ⟨sA, (1, 1), 3⟩
theorem thr_live (hh : ThrF W h) : Calls Tryz.prog 10 #[.slice (some ⟨h, 0, none⟩) 3 3] W fun e w' => ∃ u, e = .returned u ∧ Cells w' w'.heap.size u 1 4 (lcell yL) ∧ Below W.heap.size W w' := by
 refine (live_any [yA, yB, yC] _ W (thr_rows hh) wf3 (by simp)).mono ?_
 rintro e w' ⟨u, L, rfl, hp, _, ho, hb⟩
 have hk : keepF (goneF [yA, yB, yC]) [yA, yB, yC] = [yL] := by
  have e1 : goneF [yA, yB, yC] = [(0, 1)] := by decide
  rw [e1]; rfl
 rw [hk] at hp
 obtain rfl := List.perm_singleton.1 hp
 exact ⟨u, rfl, Cells.own ho, hb⟩
end
set_option maxHeartbeats 3200000 in
set_option maxRecDepth 100000 in
theorem awake_any (w : World) (hm : MX w) : Calls Tryz.prog 9 #[] w (Said true w) := by
 have HMX : Hid (∀ W, Below w.heap.size w W → MX W) := fun W hW => hm.next hW
 have HF := Lib.hid fact_any
 clear hm
 go_enter Tryz.func9, Tryz.ntmps9
 go_wp2_with fail
 (with_reducible refine (HF.out _ _ _ _).mono ?_)
 rintro e w1 ⟨rfl, hb1⟩
 have HB1 := Lib.hid hb1
 clear hb1
 go_wp2_with fail
 (with_reducible refine (HF.out _ _ _ _).mono ?_)
 rintro e w2 ⟨rfl, hb2⟩
 have HB2 := Lib.hid (HB1.out.trans (hb2.mono HB1.out.size))
 clear hb2
 go_wp2_with fail
 (with_reducible refine (HF.out _ _ _ _).mono ?_)
 rintro e w3 ⟨rfl, hb3⟩
 have HB3 := Lib.hid (HB2.out.trans (hb3.mono HB2.out.size))
 clear hb3
 obtain ⟨h, hh⟩ : ∃ h, h = w3.heap.size := ⟨_, rfl⟩
 obtain ⟨w4, hw4⟩ : ∃ W, W = w3.alloc (.cells #[.int .i64 1, .string sA, .int .i64 0, .int .i64 1, .int .i64 3, .slice none 0 0, .slice none 0 0, .int .i64 0, .bool false, .int .i64 1, .string sA, .int .i64 1, .int .i64 1, .int .i64 3, .slice none 0 0, .slice none 0 0, .int .i64 0, .bool false, .int .i64 2, .string sA, .int .i64 0, .int .i64 1, .int .i64 3, .slice none 0 0, .slice none 0 0, .int .i64 0, .bool false] 40) := ⟨_, rfl⟩
 have HT4 : Hid (ThrF w4 h) := by show _ = _; rw [hw4, hh]; exact heap_alloc_new w3 _
 have HB4 : Hid (Below w.heap.size w w4) := by show Below _ _ _; rw [hw4]; exact HB3.out.alloc HB3.out.size _
 have HW4 := Lib.hid hw4
 have HH := Lib.hid hh
 have HL4 := Lib.hid (thr_live HT4.out)
 clear hw4 hh
 go_wp2_with fail
 rw [← HW4.out, ← HH.out]
 (with_reducible refine HL4.out.mono ?_)
 rintro e w5 ⟨u, rfl, hc5, hb5⟩
 obtain ⟨uo, uc, e0, _, _⟩ := hc5.form
 subst e0
 have HC5 := Lib.hid hc5
 obtain ⟨bb, off, rfl, hbB, q0, q1, q2, q3⟩ := lcell_get hc5
 simp only [yL] at q0 q1 q2 q3
 have HB5 := Lib.hid (HB4.out.trans (hb5.mono HB4.out.size))
 have HT5 := Lib.hid (HT4.out.next hb5)
 have HS5 := Lib.hid (series_one yL _ w5 hc5)
 clear hc5 hb5
 go_wp2_with fail
 (with_reducible refine HS5.out.mono ?_)
 rintro e w6 ⟨g6, c6, rfl, _, hb6⟩
 have HB6 := Lib.hid (HB5.out.trans (hb6.mono HB5.out.size))
 have HT6 := Lib.hid (HT5.out.next hb6)
 have HC6 := Lib.hid (HC5.out.next hb6)
 have HD6 := Lib.hid (thr_dots HT6.out)
 clear hb6 q0 q1 q2 q3
 go_wp2_with fail
 (with_reducible refine HD6.out.mono ?_)
 rintro e w7 ⟨rfl, hb7⟩
 have HB7 := Lib.hid (HB6.out.trans (hb7.mono HB6.out.size))
 have HT7 := Lib.hid (HT6.out.next hb7)
 have HC7 := Lib.hid (HC6.out.next hb7)
 have HD7 := Lib.hid (last_dots HT7.out)
 clear hb7
 go_wp2_with fail
 (with_reducible refine HD7.out.mono ?_)
 rintro e w8 ⟨rfl, hb8⟩
 have HB8 := Lib.hid (HB7.out.trans (hb8.mono HB7.out.size))
 have HC8 := Lib.hid (HC7.out.next hb8)
 clear hb8
 obtain ⟨g, hg⟩ : ∃ g, g = w8.heap.size := ⟨_, rfl⟩
 obtain ⟨w9, hw9⟩ : ∃ W, W = w8.alloc (.cells #[.int .i64 1, .string ⟨#[97]⟩, .string ⟨#[50]⟩] 54) := ⟨_, rfl⟩
 have hb9 : Below w8.heap.size w8 w9 := by rw [hw9]; exact below1
 have x9 : w9.heap[g]? = some (.cells #[.int .i64 1, .string ⟨#[97]⟩, .string ⟨#[50]⟩] 54) := by rw [hw9, hg]; exact heap_alloc_new w8 _
 have HB9 := Lib.hid (HB8.out.trans (hb9.mono HB8.out.size))
 have HC9 := Lib.hid (HC8.out.next hb9)
 have HE9 := Lib.hid (expect_not ⟨#[49]⟩ yL _ g ⟨#[97]⟩ ⟨#[50]⟩ w9 HC9.out (lt_of_block x9) (boxc x9 0 _ rfl) (boxc x9 1 _ rfl) (boxc x9 2 _ rfl)
  (fun W hW => parse_sA2 W (HMX.out W (HB9.out.trans (hW.mono HB9.out.size))))
  (fun W => maccepts_other ⟨#[97]⟩ ⟨#[50]⟩ ⟨#[49]⟩ W (fun W2 => isname_any ⟨#[97]⟩ W2 (by unfold maxLen; decide)) (fun W2 => isval_any ⟨#[50]⟩ W2 (by unfold maxLen; decide)) (by decide)))
 have HW9 := Lib.hid hw9
 have HG9 := Lib.hid hg
 clear hb9 x9 hw9 hg
 go_wp2_with fail
 rw [← HW9.out, ← HG9.out]
 (with_reducible refine HE9.out.mono ?_)
 rintro e w10 ⟨rfl, hb10⟩
 have HB10 := Lib.hid (HB9.out.trans (hb10.mono HB9.out.size))
 have HO10 := Lib.hid (old_one yL _ 4 w10 (HC9.out.next hb10) rfl rfl rfl)
 clear hb10
 go_wp2_with fail
 (with_reducible refine HO10.out.mono ?_)
 rintro e w11 ⟨g11, c11, rfl, hb11⟩
 have HB11 := Lib.hid (HB10.out.trans (hb11.mono HB10.out.size))
 clear hb11
 go_wp2
 go_ret
 exact ⟨rfl, HB11.out⟩
end Go.Proofs.YtnbdcnbhejfdhaaGreat
namespace Go.Proofs.YtnbdcnbhejfdhaaGreat
open Go Go.RowKit Go.ChangeShapes cl
def FarP (l : List Fct) (w : World) (e : Ending) (w' : World) : Prop := ∃ b, e = .returned (.bool b) ∧ (b = false → l.length ≤ 60) ∧ Below w.heap.size w w'
set_option maxHeartbeats 1600000 in
set_option maxRecDepth 100000 in
theorem far_any (l : List Fct) (v : Value) (w : World) (hl : Fcts w w.heap.size v l) : Calls Tryz.prog 7 #[v] w (FarP l w) := by
 obtain ⟨n, hn⟩ : ∃ n, n = l.length := ⟨_, rfl⟩
 have HN := Lib.hid hn
 obtain ⟨ao, cap, rfl, _, hn6⟩ : ∃ ao cap, v = .slice ao n cap ∧ n ≤ cap ∧ n ≤ maxLen := RowsAt.form' hl hn
 have hn63 : n ≤ 9223372036854775807 := by unfold maxLen at hn6; exact hn6
 have HL := Lib.hid hl
 have HB0 : Hid (Below w.heap.size w w) := Below.refl _ _
 clear hl hn hn6
 go_enter Tryz.func7, Tryz.ntmps7
 go_wp2
 go_loopw [7] (fun i wr => ∃ k : Nat, i = .int .i64 k ∧ k ≤ n ∧ Hid (Below w.heap.size w wr)) (fun i _ => n - (intOf i).toNat)
 case atStart => exact ⟨0, rfl, by omega, HB0.out⟩
 case round =>
  obtain ⟨k, rfl, hk, HB⟩ := hrel
  by_cases hlt : k < n
  ·
   have hkI : (k : Int) < (n : Int) := by omega
   obtain ⟨bb, off, ma, mn, mc, la, ln, lc, er, st, rfl, hbB, p0, p1, p2, p3, p4, p5, p6, p7, p8⟩ := Fcts.get (RowsAt.next fct_steady HL.out HB.out) HN.out hlt
   obtain ⟨x, hx⟩ : ∃ x, x = l.getD k default := ⟨_, rfl⟩
   rw [← hx] at p0 p1 p2 p3 p4
   have HB1 := Lib.hid (HB.out.alloc HB.out.size (.cells #[.int .i64 x.kd, .string x.s, .int .i64 x.d.1, .int .i64 x.d.2, .int .i64 x.t, .slice ma mn mc, .slice la ln lc, .int .i64 er, .bool st] 40))
   clear hx
   by_cases h : 1000 < x.s.size
   ·
    have hI : (1000 : Int) < (x.s.size : Int) := by omega
    have HR : Hid (FarP l w (.returned (.bool true)) _) := ⟨true, rfl, (fun h => by cases h), HB1.out⟩
    go_wp2
    go_ret
    exact HR.out
   ·
    have hI : ¬ (1000 : Int) < (x.s.size : Int) := by omega
    have hI2 : (x.s.size : Int) ≤ 1000 := by omega
    go_wp2
    go_roundw
    case rel => exact ⟨k + 1, by go_num, by omega, HB1⟩
    case measure => simp [intOf]; omega
  ·
   have hkn : k = n := by omega
   subst hkn
   by_cases h : 60 < k
   ·
    have hI : (60 : Int) < (k : Int) := by omega
    go_wp2
    go_ret
    exact ⟨true, rfl, (fun h => by cases h), HB.out⟩
   ·
    have hI : ¬ (60 : Int) < (k : Int) := by omega
    have hI2 : (k : Int) ≤ 60 := by omega
    go_wp2
    go_ret
    exact ⟨_, rfl, fun _ => by have := HN.out; omega, HB.out⟩
theorem lv_flat (L : List Lv) : lvcells L = (L.map lcell).flatten := by simp [lvcells, List.flatMap]
theorem lv_get {w : World} {B n c : Nat} {ao : Option Addr} {L : List Lv} (h : Cells w B (.slice ao n c) n 4 (lvcells L)) (hn : n = L.length) {j : Nat} (hj : j < n) : ∃ b off, ao = some ⟨b, off, none⟩ ∧ b < B ∧
  w.cell? ⟨b, off + j * 4, none⟩ = some (.string (L.getD j default).s) ∧ w.cell? ⟨b, off + j * 4 + 1, none⟩ = some (.int .i64 (L.getD j default).d.1) ∧ w.cell? ⟨b, off + j * 4 + 2, none⟩ = some (.int .i64 (L.getD j default).d.2) ∧ w.cell? ⟨b, off + j * 4 + 3, none⟩ = some (.int .i64 (L.getD j default).t) := by
 subst hn
 obtain ⟨_, ao', c', e, _, _, h4⟩ := h
 simp only [Value.slice.injEq] at e
 obtain ⟨rfl, _, rfl⟩ := e
 obtain ⟨b, off, rfl, hB, hc⟩ := h4 (by omega)
 have key : ∀ i u, (lcell (L.getD j default))[i]? = some u → w.cell? ⟨b, off + j * 4 + i, none⟩ = some u := fun i u hu => by
  have hi : i < 4 := (List.getElem?_eq_some_iff.1 hu).1
  have := flat_get (k := 4) (L.map lcell) (fun c hc => by obtain ⟨x, _, rfl⟩ := List.mem_map.1 hc; rfl) j (lcell (L.getD j default)) i (by
   rw [List.getElem?_map, List.getElem?_eq_getElem hj, List.getD_eq_getElem?_getD, List.getElem?_eq_getElem hj]; rfl) hi
  rw [Nat.add_assoc]
  exact hc _ u (by rw [lv_flat, this]; exact hu)
 exact ⟨b, off, rfl, hB, key 0 _ rfl, key 1 _ rfl, key 2 _ rfl, key 3 _ rfl⟩
end Go.Proofs.YtnbdcnbhejfdhaaGreat
namespace Go.Proofs.YtnbdcnbhejfdhaaGreat
open Go Go.RowKit Go.ChangeShapes cl
def hitB (f : Fct) (x : Lv) : Bool := decide (x.d = f.d) && (decide (x.s = f.s) && decide (x.t = f.t))
def foundB (f : Fct) (L : List Lv) (k : Nat) : Bool := (L.take k).any (hitB f)
def badB (l : List Fct) (i k : Nat) : Bool := decide ((l.getD k default).d = (l.getD i default).d) && (decide ((l.getD k default).kd = 2) || decide ((l.getD k default).kd = 1) && decide (k < i))
def wantB (l : List Fct) (i : Nat) : Nat → Bool
 | 0 => valid (l.getD i default).d
 | k + 1 => wantB l i k && !badB l i k
theorem wantB_all {l : List Fct} {i : Nat} : ∀ k, wantB l i k = true → valid (l.getD i default).d = true ∧ ∀ j, j < k → badB l i j = false := by
 intro k
 induction k with
 | zero => intro h; exact ⟨h, fun j hj => by omega⟩
 | succ k ih =>
  intro h
  simp only [wantB, Bool.and_eq_true, Bool.not_eq_true'] at h
  obtain ⟨a, b⟩ := ih h.1
  refine ⟨a, fun j hj => ?_⟩
  by_cases e : j = k
  ·
   subst e; exact h.2
  ·
   exact b j (by omega)
theorem foundB_snoc {f : Fct} {L : List Lv} {k : Nat} (hk : k < L.length) : foundB f L (k + 1) = (foundB f L k || hitB f (L.getD k default)) := by
 unfold foundB
 rw [List.take_add_one, List.any_append, List.getD_eq_getElem?_getD, List.getElem?_eq_getElem hk]
 simp
theorem getD_memF {l : List Fct} {k : Nat} (h : k < l.length) : l.getD k default ∈ l := by
 rw [List.getD_eq_getElem?_getD, List.getElem?_eq_getElem h]
 exact List.getElem_mem _
theorem getD_memL {l : List Lv} {k : Nat} (h : k < l.length) : l.getD k default ∈ l := by
 rw [List.getD_eq_getElem?_getD, List.getElem?_eq_getElem h]
 exact List.getElem_mem _
theorem mem_goneF {l : List Fct} {d : Dot} (h : d ∈ goneF l) : ∃ k, k < l.length ∧ (l.getD k default).kd = 2 ∧ (l.getD k default).d = d := by
 unfold goneF at h
 obtain ⟨f, hf, rfl⟩ := List.mem_map.1 h
 obtain ⟨hf, hk⟩ := List.mem_filter.1 hf
 obtain ⟨k, hk2, rfl⟩ := List.mem_iff_getElem.1 hf
 refine ⟨k, hk2, ?_⟩
 rw [List.getD_eq_getElem?_getD, List.getElem?_eq_getElem hk2]
 exact ⟨by simpa using hk, rfl⟩
theorem mem_goneF' {l : List Fct} {f : Fct} (h : f ∈ l) (hk : f.kd = 2) : f.d ∈ goneF l := List.mem_map.2 ⟨f, List.mem_filter.2 ⟨h, by simpa using hk⟩, rfl⟩
theorem want_found {l : List Fct} {L : List Lv} (hp : L.Perm (keepF (goneF l) l)) {i : Nat} (hi : i < l.length) (h1 : (l.getD i default).kd = 1) (hw : wantB l i l.length = true) : foundB (l.getD i default) L L.length = true := by
 obtain ⟨hv, hb⟩ := wantB_all _ hw
 have K := kept_all (goneF l) l
 have hng : (l.getD i default).d ∉ goneF l := fun hg => by
  obtain ⟨k, hk, a, b⟩ := mem_goneF hg
  have := hb k hk
  unfold badB at this
  rw [b, a] at this
  simp at this
 obtain ⟨x, hx, hxd⟩ := List.mem_map.1 (K.all _ (getD_memF hi) h1 hv hng)
 obtain ⟨j, hj, a, b, c, d, e⟩ := K.from' x hx
 have hji : j = i := by
  by_cases h : j = i
  ·
   exact h
  ·
   exfalso
   by_cases h2 : j < i
   ·
    have := hb j hj
    unfold badB at this
    rw [b, hxd, a, decide_eq_true h2] at this
    simp at this
   ·
    exact e i (by omega) h1 hxd.symm
 subst hji
 unfold foundB
 rw [List.take_length, List.any_eq_true]
 refine ⟨x, hp.mem_iff.2 hx, ?_⟩
 unfold hitB
 simp [← b, ← c, ← d]
theorem alive_kept {l : List Fct} {L : List Lv} (hp : L.Perm (keepF (goneF l) l)) {i k : Nat} (hi : i < L.length) (hk : k < l.length) : ¬ ((l.getD k default).kd = 2 ∧ (l.getD k default).d = (L.getD i default).d) := fun h => by
 have hx := hp.mem_iff.1 (getD_memL hi)
 have := ((kept_all (goneF l) l).ok _ hx).2
 rw [← h.2] at this
 exact this (mem_goneF' (getD_memF hk) h.1)
theorem up_next {L : List Lv} (h : UpL L) {i : Nat} (hi : i + 1 < L.length) : dless (L.getD i default).d (L.getD (i + 1) default).d = true := by
 rw [List.getD_eq_getElem?_getD, List.getD_eq_getElem?_getD, List.getElem?_eq_getElem hi, List.getElem?_eq_getElem (by omega)]
 exact List.pairwise_iff_getElem.1 h i (i + 1) (by omega) hi (by omega)
end Go.Proofs.YtnbdcnbhejfdhaaGreat
