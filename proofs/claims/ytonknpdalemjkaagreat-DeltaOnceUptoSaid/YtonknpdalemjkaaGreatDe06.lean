/- texts put together: OrsPart, DotCmp, DotSort, DotLess, DotClone, DotUp. -/
import Derived.Test.YtonknpdalemjkaaGreatDe00
import Derived.Test.YtonknpdalemjkaaGreatDe03
import Derived.Test.YtonknpdalemjkaaGreatDe05
import Derived.Lib.SmallJoins
import Derived.Shelf.GgSortFunc.InsertionK
import Derived.Shelf.SlSortCmp.Insertion
import Derived.Sort.Grow
import Derived.StillTailTactics
namespace Go.Proofs.YtonknpdalemjkaaGreat
open Go Go.RowKit Go.ChangeShapes cl
def staysOf (p : Ent → Bool) (l : List Ent) : List Ent := l.filter fun x => ! p x
def goneOf (p : Ent → Bool) (l : List Ent) : List Dot := (l.filter p).map Ent.d
theorem stays_snoc (p : Ent → Bool) (l : List Ent) (x : Ent) : staysOf p (l ++ [x]) = if p x then staysOf p l else staysOf p l ++ [x] := by
 unfold staysOf
 rw [List.filter_append]
 cases h : p x <;> simp [h]
theorem gone_snoc (p : Ent → Bool) (l : List Ent) (x : Ent) : goneOf p (l ++ [x]) = if p x then goneOf p l ++ [x.d] else goneOf p l := by
 unfold goneOf
 rw [List.filter_append]
 cases h : p x <;> simp [h]
theorem stays_len (p : Ent → Bool) (l : List Ent) : (staysOf p l).length ≤ l.length := List.length_filter_le _ _
theorem gone_len (p : Ent → Bool) (l : List Ent) : (goneOf p l).length ≤ l.length := by unfold goneOf; rw [List.length_map]; exact List.length_filter_le _ _
def OwnE (w0 : World) (w : World) (v : Value) (l : List Ent) : Prop := w.ownsRow w0.heap.size 54 5 v l.length (ecells l)
def OwnDs (w0 : World) (w : World) (v : Value) (l : List Dot) : Prop := w.ownsRow w0.heap.size 51 2 v l.length (dcells l)
def PartP (p : Ent → Bool) (l : List Ent) (w : World) (e : Ending) (w' : World) : Prop :=
 ∃ a n c b m d, e = .returned (.tuple #[.slice a n c, .slice b m d]) ∧ n = (staysOf p l).length ∧ m = (goneOf p l).length ∧ OwnE w w' (.slice a n c) (staysOf p l) ∧ OwnDs w w' (.slice b m d) (goneOf p l) ∧ Below w.heap.size w w'
set_option maxHeartbeats 3200000 in
set_option maxRecDepth 100000 in
theorem part_any (f : Nat) (fc : Array Value) (p : Ent → Bool) (l : List Ent) (v : Value) (w : World) (h : Ents w w.heap.size v l) (hl : l.length ≤ 100000) (hq : Asks f fc p w) (hv : ∀ x ∈ l, valid x.d = true) :
  Calls Tryz.prog 56 #[v, .func (.func f) #[] fc] w (PartP p l w) := by
 obtain ⟨n, hn⟩ : ∃ n, n = l.length := ⟨_, rfl⟩
 have HN := Lib.hid hn
 obtain ⟨ao, cap, rfl⟩ : ∃ ao cap, v = .slice ao n cap := by
  obtain ⟨ao, cap, e, _⟩ := h.form
  exact ⟨ao, cap, by rw [hn]; exact e⟩
 have hn6 : n ≤ 100000 := by omega
 have HC := Lib.hid h
 have HQ := Lib.hid hq
 have HV := Lib.hid hv
 clear h hn hl hq hv
 go_enter Tryz.func56, Tryz.ntmps56
 go_wp2
 go_loopw [6, 7, 12] (fun s g i wr => ∃ (k : Nat) (a b : Option Addr) (n1 c1 m1 d1 : Nat), s = .slice a n1 c1 ∧ g = .slice b m1 d1 ∧ i = .int .i64 k ∧ k ≤ n ∧ n1 ≤ k ∧ m1 ≤ k ∧ Hid (n1 = (staysOf p (l.take k)).length) ∧ Hid (m1 = (goneOf p (l.take k)).length) ∧ Hid (OwnE w wr (.slice a n1 c1) (staysOf p (l.take k))) ∧ Hid (OwnDs w wr (.slice b m1 d1) (goneOf p (l.take k))) ∧ Hid (Below w.heap.size w wr)) (fun _ _ i _ => n - (intOf i).toNat)
 case atStart => exact ⟨0, none, none, 0, 0, 0, 0, rfl, rfl, rfl, by omega, by omega, by omega, rfl, rfl, World.ownsRow_nil _ _ _ _, World.ownsRow_nil _ _ _ _, Below.refl _ _⟩
 case round =>
  obtain ⟨k, a, b, n1, c1, m1, d1, rfl, rfl, rfl, hk, hn1k, hm1k, HN1, HM1, HO, HD, HB⟩ := hrel
  by_cases hlt : k < n
  ·
   have hkI : (k : Int) < (n : Int) := by omega
   obtain ⟨bb, off, rfl, hbB, p0, p1, p2, p3, p4⟩ := Ents.get (Cells.next HC.out HB.out) HN.out hlt
   obtain ⟨x, hx⟩ : ∃ x, x = l.getD k default := ⟨_, rfl⟩
   rw [← hx] at p0 p1 p2 p3
   have HX : Hid (l.take (k + 1) = l.take k ++ [x]) := by
    show _ = _
    rw [hx]; exact take_one l k default (by rw [← HN.out]; exact hlt)
   have hxv : valid x.d = true := HV.out x (by
    rw [hx, List.getD_eq_getElem?_getD, List.getElem?_eq_getElem (by rw [← HN.out]; exact hlt)]
    exact List.getElem_mem _)
   obtain ⟨W1, hW1⟩ : ∃ W1, W1 = wr.alloc (.cells #[.string x.s, .int .i64 x.d.1, .int .i64 x.d.2, .int .i64 x.t, .slice none 0 0] 54) := ⟨_, rfl⟩
   have hb1 : Below wr.heap.size wr W1 := by rw [hW1]; exact below1
   have HA := Lib.hid (HQ.out.says x W1 hxv (HB.out.trans (hb1.mono HB.out.size)))
   have y1 : W1.heap[wr.heap.size]? = some (.cells #[.string x.s, .int .i64 x.d.1, .int .i64 x.d.2, .int .i64 x.t, .slice none 0 0] 54) := by rw [hW1]; exact heap_alloc_new wr _
   have Y1 := Lib.hid y1
   have HB1 := Lib.hid hb1
   have HT := Lib.hid (twent_any x)
   unfold eval' at HA HT
   clear hx hb1 y1 hxv
   go_wp2_with fail
   rw [← hW1]
   clear hW1
   rw [HQ.out.en, Oper.upon_enter]
   (with_reducible refine HA.out.mono ?_)
   rintro e w2 ⟨rfl, hb2⟩
   have y2 := (hb2.block _ (lt_of_block Y1.out)).trans Y1.out
   have hb3 := HB1.out.trans (hb2.mono HB1.out.size)
   have q0 := boxc y2 0 _ rfl
   have q1 := boxc y2 1 _ rfl
   have q2 := boxc y2 2 _ rfl
   have q3 := boxc y2 3 _ rfl
   have q4 := boxc y2 4 _ rfl
   have HB3 := Lib.hid hb3
   have hE3 := own_stay HO.out hb3
   have hD3 := own_stay HD.out hb3
   rw [← HN1.out] at hE3
   rw [← HM1.out] at hD3
   have HBW := Lib.hid (HB.out.trans (hb3.mono HB.out.size))
   have hz2 : w.heap.size ≤ w2.heap.size := HBW.out.size
   cases hp : p x
   ·
    have HE3 := Lib.hid hE3
    have HD3 := Lib.hid hD3
    have HS1 : Hid (staysOf p (l.take (k + 1)) = staysOf p (l.take k) ++ [x]) := by show _ = _; rw [HX.out, stays_snoc, hp]; rfl
    have HG1 : Hid (goneOf p (l.take (k + 1)) = goneOf p (l.take k)) := by show _ = _; rw [HX.out, gone_snoc, hp]; rfl
    clear y2 hb2 hb3 hE3 hD3 HA HB1 Y1 hp
    go_wp2_with fail
    (with_reducible refine (HT.out _).mono ?_)
    rintro e w4 ⟨rfl, hb4⟩
    have HE4 := Lib.hid (own_stay HE3.out hb4)
    have HD4 := Lib.hid (own_stay HD3.out hb4)
    have HB4 := Lib.hid (HBW.out.trans (hb4.mono hz2))
    have hz4 : w.heap.size ≤ w4.heap.size := HB4.out.size
    clear HE3 HD3 HBW hb4 HB3 hz2 q0 q1 q2 q3 q4
    go_wp2_with (at_builtin; refine app1g (.tmp 24) (.tmp 27) 22 rfl rfl w.heap.size Tryz.underlying22 infoEnt rfl (by decide) (by decide) HE4.out rfl rfl rfl (by intro u hu; simp at hu; rcases hu with rfl | rfl | rfl | rfl | rfl <;> rfl) (by omega) hz4 ?_)
    intro v' w5 hown hg5
    have hbA : Below w.heap.size w (w4.alloc (.cells #[.string x.s, .int .i64 x.d.1, .int .i64 x.d.2, .int .i64 x.t, .slice none 0 0] 54)) := HB4.out.alloc hz4 _
    have hzA := hbA.size
    have hoA := World.ownsRow.alloc HE4.out (.cells #[.string x.s, .int .i64 x.d.1, .int .i64 x.d.2, .int .i64 x.t, .slice none 0 0] 54)
    have hdA := World.ownsRow.alloc HD4.out (.cells #[.string x.s, .int .i64 x.d.1, .int .i64 x.d.2, .int .i64 x.t, .slice none 0 0] 54)
    have hD5 : OwnDs w w5 (.slice b m1 d1) (goneOf p (l.take (k + 1))) := by
     unfold OwnDs
     rw [HG1.out, ← HM1.out]
     exact own_kt hdA (Kt.append hoA hg5) (by decide)
    have hE5 : OwnE w w5 v' (staysOf p (l.take (k + 1))) := by
     unfold OwnE
     rw [HS1.out, ecells_app, List.length_append, ← HN1.out]
     exact hown
    have HB5 := Lib.hid (hbA.trans (grown_below hoA hzA hg5))
    obtain ⟨a5, c5, rfl⟩ := own_slice hown
    have HD5 := Lib.hid hD5
    have HE5 := Lib.hid hE5
    have HL1 : Hid (n1 + 1 = (staysOf p (l.take (k + 1))).length) := by show _ = _; rw [HS1.out, List.length_append, ← HN1.out]; rfl
    have HL2 : Hid (m1 = (goneOf p (l.take (k + 1))).length) := by show _ = _; rw [HG1.out, ← HM1.out]
    clear hown hg5 hbA hzA hoA hdA hD5 hE5 HE4 HD4 HB4
    go_wp2
    go_roundw
    case rel => exact ⟨k + 1, a5, b, n1 + 1, c5, m1, d1, rfl, rfl, by go_num, by omega, by omega, by omega, HL1, HL2, HE5, HD5, HB5⟩
    case measure => simp [intOf]; omega
   ·
    have HE3 := Lib.hid hE3
    have HD3 := Lib.hid hD3
    have HS1 : Hid (staysOf p (l.take (k + 1)) = staysOf p (l.take k)) := by show _ = _; rw [HX.out, stays_snoc, hp]; rfl
    have HG1 : Hid (goneOf p (l.take (k + 1)) = goneOf p (l.take k) ++ [x.d]) := by show _ = _; rw [HX.out, gone_snoc, hp]; rfl
    clear y2 hb2 hb3 hE3 hD3 HA HB1 Y1 hp HT
    go_wp2_with (at_builtin; refine app1g (.tmp 19) (.tmp 22) 23 rfl rfl w.heap.size Tryz.underlying23 infoDot rfl (by decide) (by decide) HD3.out rfl rfl rfl (by intro u hu; simp at hu; rcases hu with rfl | rfl <;> rfl) (by omega) hz2 ?_)
    intro v' w5 hown hg5
    have hbA : Below w.heap.size w (w2.alloc (.cells #[.int .i64 x.d.1, .int .i64 x.d.2] 51)) := HBW.out.alloc hz2 _
    have hzA := hbA.size
    have hoA := World.ownsRow.alloc HD3.out (.cells #[.int .i64 x.d.1, .int .i64 x.d.2] 51)
    have heA := World.ownsRow.alloc HE3.out (.cells #[.int .i64 x.d.1, .int .i64 x.d.2] 51)
    have hE5 : OwnE w w5 (.slice a n1 c1) (staysOf p (l.take (k + 1))) := by
     unfold OwnE
     rw [HS1.out, ← HN1.out]
     exact own_kt heA (Kt.append hoA hg5) (by decide)
    have hD5 : OwnDs w w5 v' (goneOf p (l.take (k + 1))) := by
     unfold OwnDs
     rw [HG1.out, dcells_app, List.length_append, ← HM1.out]
     exact hown
    have HB5 := Lib.hid (hbA.trans (grown_below hoA hzA hg5))
    obtain ⟨a5, c5, rfl⟩ := own_slice hown
    have HD5 := Lib.hid hD5
    have HE5 := Lib.hid hE5
    have HL1 : Hid (n1 = (staysOf p (l.take (k + 1))).length) := by show _ = _; rw [HS1.out, ← HN1.out]
    have HL2 : Hid (m1 + 1 = (goneOf p (l.take (k + 1))).length) := by show _ = _; rw [HG1.out, List.length_append, ← HM1.out]; rfl
    clear hown hg5 hbA hzA hoA heA hD5 hE5 HE3 HD3 HBW HB3
    go_wp2
    go_roundw
    case rel => exact ⟨k + 1, a, a5, n1, c1, m1 + 1, c5, rfl, rfl, by go_num, by omega, by omega, by omega, HL1, HL2, HE5, HD5, HB5⟩
    case measure => simp [intOf]; omega
  ·
   have hkn : k = n := by omega
   subst hkn
   have hT : l.take k = l := List.take_of_length_le (by rw [← HN.out]; exact Nat.le_refl _)
   have HR : Hid (PartP p l w (.returned (.tuple #[.slice a n1 c1, .slice b m1 d1])) wr) := by
    refine ⟨_, _, _, _, _, _, rfl, ?_, ?_, ?_, ?_, HB.out⟩
    ·
     have := HN1.out; rwa [hT] at this
    ·
     have := HM1.out; rwa [hT] at this
    ·
     have := HO.out; rwa [hT] at this
    ·
     have := HD.out; rwa [hT] at this
   clear hT
   go_wp2
   exact bodyPost_ret (v := .tuple #[.slice a n1 c1, .slice b m1 d1]) (by simp [results, Tryz.results56, go_sem]) rfl HR.out
end Go.Proofs.YtonknpdalemjkaaGreat
namespace Go.Proofs.YtonknpdalemjkaaGreat
open Go.RowKit Go.ChangeShapes cl Go.Sort
def cf (x y : Dot) : Int := if Lib.compareInt x.1 y.1 = 0 then Lib.compareInt x.2 y.2 else Lib.compareInt x.1 y.1
theorem cmp_zero (a b : Int) : Lib.compareInt a b = 0 ↔ a = b := by
 unfold Lib.compareInt
 by_cases h1 : a < b
 ·
  simp [h1]; omega
 ·
  by_cases h2 : b < a
  ·
   simp [h1, h2]; omega
  ·
   simp [h1, h2]; omega
theorem cmp_neg (a b : Int) : Lib.compareInt a b < 0 ↔ a < b := by
 unfold Lib.compareInt
 by_cases h1 : a < b
 ·
  simp [h1]
 ·
  by_cases h2 : b < a <;> simp [h1, h2]
theorem cf_neg (x y : Dot) : cf x y < 0 ↔ dless x y = true := by
 rw [dm.dless_iff]
 unfold cf
 by_cases h : x.1 = y.1
 ·
  rw [if_pos ((cmp_zero _ _).2 h), cmp_neg]; omega
 ·
  rw [if_neg (fun e => h ((cmp_zero _ _).1 e)), cmp_neg]; omega
theorem ltOf_cf (x y : Dot) : ltOf cf x y = dless x y := by
 have : ltOf cf x y = true ↔ dless x y = true := by
  unfold ltOf
  rw [decide_eq_true_iff, cf_neg]
 exact Bool.eq_iff_iff.2 this
theorem swo : SWO (ltOf cf) where
 irrefl x := by rw [ltOf_cf]; cases h : dless x x with
  | false => rfl
  | true => exact (dm.dless_irrefl x h).elim
 trans x y z h1 h2 := by rw [ltOf_cf] at *; exact dm.dless_trans h1 h2
 ntrans x y z h1 h2 := by
  rw [ltOf_cf] at *
  cases h : dless x z with
  | false => rfl
  | true =>
   rw [dm.dless_iff] at h
   have h3 : ¬ (x.1 < y.1 ∨ x.1 = y.1 ∧ x.2 < y.2) := fun e => by rw [(dm.dless_iff x y).2 e] at h1; cases h1
   have h4 : ¬ (y.1 < z.1 ∨ y.1 = z.1 ∧ y.2 < z.2) := fun e => by rw [(dm.dless_iff y z).2 e] at h2; cases h2
   omega
def CC : Prop := ∀ (x y : Int) (w : World), Calls Tryz.prog 109 #[.int .i64 x, .int .i64 y] w fun e w' => e = .returned (.int .i64 (Lib.compareInt x y)) ∧ w' = w
set_option maxHeartbeats 800000 in
set_option maxRecDepth 100000 in
theorem or_two (x y : Int) (g : Nat) (w : World) (h0 : w.cell? ⟨g, 0, none⟩ = some (.int .i64 x)) (h1 : w.cell? ⟨g, 1, none⟩ = some (.int .i64 y)) :
  Calls Tryz.prog 108 #[.slice (some ⟨g, 0, none⟩) 2 2] w fun e w' => e = .returned (.int .i64 (if x = 0 then y else x)) ∧ w' = w := by
 obtain ⟨R, hR⟩ : ∃ R, R = if x = 0 then y else x := ⟨_, rfl⟩
 rw [← hR]
 have HR := Lib.hid hR
 clear hR
 go_enter Tryz.func108, Tryz.ntmps108
 go_wp2
 go_loop [5, 8] (fun _ i => ∃ k : Nat, i = .int .i64 k ∧ k ≤ 2 ∧ Hid (0 < k → x = 0) ∧ Hid (1 < k → y = 0)) (fun _ i => 2 - (intOf i).toNat)
 case atStart => exact ⟨0, rfl, by omega, fun h => absurd h (by omega), fun h => absurd h (by omega)⟩
 case round =>
  obtain ⟨k, rfl, hk, HX, HY⟩ := hrel
  rcases (by omega : k = 0 ∨ k = 1 ∨ k = 2) with rfl | rfl | rfl
  ·
   by_cases hx : x = 0
   ·
    have hxb : (x == 0) = true := by simpa using hx
    have hxc : (x != 0) = false := by simpa using hx
    have HX1 : Hid (x = 0) := hx
    subst hx
    go_wp2
    go_round
    case rel => exact ⟨1, by go_num, by omega, (by first | exact True.intro | exact fun _ => by first | rfl | exact True.intro), (by first | exact True.intro | exact fun h => absurd h (by omega))⟩
    case measure => simp [intOf]
   ·
    have hxb : (x == 0) = false := by simpa using hx
    have hxc : (x != 0) = true := by simpa using hx
    have HE : Hid (R = x) := by show _ = _; rw [HR.out, if_neg hx]
    clear hx
    go_wp2
    go_ret
    rw [HE.out]; exact ⟨rfl, rfl⟩
  ·
   have hx0 := HX.out (by omega)
   by_cases hy : y = 0
   ·
    subst hy
    go_wp2
    go_round
    case rel => exact ⟨2, by go_num, by omega, (by first | exact True.intro | exact fun _ => hx0), (by first | exact True.intro | exact fun _ => by first | rfl | exact True.intro)⟩
    case measure => simp [intOf]
   ·
    have hyb : (y == 0) = false := by simpa using hy
    have hyc : (y != 0) = true := by simpa using hy
    have HE : Hid (R = y) := by show _ = _; rw [HR.out, if_pos hx0]
    clear hy hx0
    go_wp2
    go_ret
    rw [HE.out]; exact ⟨rfl, rfl⟩
  ·
   have HE : Hid (R = 0) := by show _ = _; rw [HR.out, if_pos (HX.out (by omega)), HY.out (by omega)]
   go_wp2
   go_ret
   rw [HE.out]; exact ⟨rfl, rfl⟩
theorem grow3 (W : World) (A B C : Obj) : (((W.alloc A).alloc B).alloc C).drew = grow (W.drewN 1) (#[A] ++ (#[B] ++ #[C])) := by
 rw [alloc_eq_grow, alloc_eq_grow, alloc_eq_grow, grow_grow, grow_grow, drew_grow]
 rfl
theorem box1 (W : World) (x y : Value) (t : TypeId) (B : Obj) (_u : Unit) (k : Nat) (u : Value) (hk : (#[x, y] : Array Value)[k]? = some u) : ((W.alloc (.cells #[x, y] t)).alloc B).drew.cell? ⟨W.heap.size, k, none⟩ = some u := by
 show ((W.alloc (.cells #[x, y] t)).alloc B).cell? _ = _
 rw [World.cell?_alloc_lt _ _ _ (show W.heap.size < (W.alloc (.cells #[x, y] t)).heap.size by simp), World.cell?_alloc_at _ _ _ _ rfl]
 exact hk
theorem box1b (W : World) (A : Obj) (x y : Value) (t : TypeId) (k : Nat) (u : Value) (hk : (#[x, y] : Array Value)[k]? = some u) : ((W.alloc A).alloc (.cells #[x, y] t)).drew.cell? ⟨W.heap.size + 1, k, none⟩ = some u := by
 have e : (W.alloc A).heap.size = W.heap.size + 1 := World.size_alloc _ _
 show ((W.alloc A).alloc (.cells #[x, y] t)).cell? _ = _
 rw [← e, World.cell?_alloc_at _ _ _ _ rfl]
 exact hk
set_option maxHeartbeats 1600000 in
set_option maxRecDepth 100000 in
theorem compare_any (hcc : CC) (x y : Dot) (W : World) : Calls Tryz.prog 98 #[.agg #[.int .i64 x.1, .int .i64 x.2], .agg #[.int .i64 y.1, .int .i64 y.2]] W fun e w' => e = .returned (.int .i64 (cf x y)) ∧ ∃ q os', w' = grow (W.drewN q) os' := by
 obtain ⟨a, b⟩ := x
 obtain ⟨c, d⟩ := y
 obtain ⟨p, hp⟩ : ∃ p, p = Lib.compareInt a c := ⟨_, rfl⟩
 obtain ⟨q, hq⟩ : ∃ q, q = Lib.compareInt b d := ⟨_, rfl⟩
 have HP : Hid (∀ W, Calls Tryz.prog 109 #[.int .i64 a, .int .i64 c] W fun e w' => e = .returned (.int .i64 p) ∧ w' = W) := fun W => by rw [hp]; exact hcc a c W
 have HQ : Hid (∀ W, Calls Tryz.prog 109 #[.int .i64 b, .int .i64 d] W fun e w' => e = .returned (.int .i64 q) ∧ w' = W) := fun W => by rw [hq]; exact hcc b d W
 have HC : Hid (cf (a, b) (c, d) = if p = 0 then q else p) := by show cf _ _ = _; unfold cf; rw [← hp, ← hq]
 obtain ⟨R, hR⟩ : ∃ R, R = cf (a, b) (c, d) := ⟨_, rfl⟩
 rw [← hR] at HC ⊢
 clear hp hq hR hcc
 go_enter Tryz.func98, Tryz.ntmps98
 go_wp2
 have x0 : ((W.alloc (.cells #[.int .i64 a, .int .i64 b] 51)).alloc (.cells #[.int .i64 c, .int .i64 d] 51)).drew.cell? ⟨W.heap.size, 0, none⟩ = some (.int .i64 a) := box1 W _ _ _ _ () 0 _ rfl
 have x1 : ((W.alloc (.cells #[.int .i64 a, .int .i64 b] 51)).alloc (.cells #[.int .i64 c, .int .i64 d] 51)).drew.cell? ⟨W.heap.size, 1, none⟩ = some (.int .i64 b) := box1 W _ _ _ _ () 1 _ rfl
 have x2 : ((W.alloc (.cells #[.int .i64 a, .int .i64 b] 51)).alloc (.cells #[.int .i64 c, .int .i64 d] 51)).drew.cell? ⟨W.heap.size + 1, 0, none⟩ = some (.int .i64 c) := box1b W _ _ _ _ 0 _ rfl
 have x3 : ((W.alloc (.cells #[.int .i64 a, .int .i64 b] 51)).alloc (.cells #[.int .i64 c, .int .i64 d] 51)).drew.cell? ⟨W.heap.size + 1, 1, none⟩ = some (.int .i64 d) := box1b W _ _ _ _ 1 _ rfl
 have HG := Lib.hid (fun C => grow3 W (.cells #[.int .i64 a, .int .i64 b] 51) (.cells #[.int .i64 c, .int .i64 d] 51) C)
 refine wp_region_still_tail 10 (by kernel_rfl) (by kernel_rfl) ?_
 change wpStill _ _ ((W.alloc (.cells #[.int .i64 a, .int .i64 b] 51)).alloc (.cells #[.int .i64 c, .int .i64 d] 51)).drew (fun a' => wpList _ _ _ _ a' ((W.alloc (.cells #[.int .i64 a, .int .i64 b] 51)).alloc (.cells #[.int .i64 c, .int .i64 d] 51)).drew) _ _
 have HG2 : Hid (∀ C, (((W.alloc (.cells #[.int .i64 a, .int .i64 b] 51)).alloc (.cells #[.int .i64 c, .int .i64 d] 51)).drew).alloc C = grow (W.drewN 1) (#[(.cells #[.int .i64 a, .int .i64 b] 51)] ++ (#[(.cells #[.int .i64 c, .int .i64 d] 51)] ++ #[C]))) := fun C => HG.out C
 generalize ((W.alloc (.cells #[.int .i64 a, .int .i64 b] 51)).alloc (.cells #[.int .i64 c, .int .i64 d] 51)).drew = X1 at x0 x1 x2 x3 HG2 ⊢
 clear HG
 simp only [List.take_succ_cons, List.take_zero, List.drop_succ_cons, List.drop_zero]
 still_step
 still_step
 still_step
 still_step
 still_call (HP.out _)
 still_step
 still_step
 still_step
 still_step
 still_call (HQ.out _)
 refine wpStill_nil ?_
 have HO := Lib.hid (or_two p q X1.heap.size (X1.alloc (.cells #[.int .i64 p, .int .i64 q] 3)) (World.cell?_alloc_at _ _ _ _ rfl) (World.cell?_alloc_at _ _ _ _ rfl))
 rw [← HC.out] at HO
 go_wp2_with (go_at_call 108; (with_reducible refine HO.out.mono ?_); rintro e w' ⟨rfl, rfl⟩)
 go_ret
 exact ⟨rfl, 1, _, HG2.out _⟩
end Go.Proofs.YtonknpdalemjkaaGreat
namespace Go.Proofs.YtonknpdalemjkaaGreat
open Go Go.RowKit Go.ChangeShapes cl Go.Sort Go.Shelf
theorem cc : CC := fun x y w => Tryz.cmp_Compare_int x y w
def encD (x : Dot) : List Value := [.int .i64 x.1, .int .i64 x.2]
theorem cmpLays (blk off size : Nat) (w : World) : CmpLays Tryz.prog 98 #[] encD 2 cf blk off size w :=
 fun _ _ _ _ x y => compare_any cc x y _
end Go.Proofs.YtonknpdalemjkaaGreat
namespace Go.Proofs.YtonknpdalemjkaaGreat
open Go Go.RowKit Go.ChangeShapes cl Go.Sort
theorem below_grow (W : World) (q : Nat) (os : Array Obj) : Below W.heap.size W (grow (W.drewN q) os) := by
 have h := below_drewND (Below.refl W.heap.size W) q
 refine h.trans ⟨rfl, rfl, rfl, by simp, fun i hi => ?_⟩
 have hs := h.size
 exact heap_grow_old _ _ (by omega)
theorem compare_says (x y : Dot) (W : World) : Calls Tryz.prog 98 #[.agg #[.int .i64 x.1, .int .i64 x.2], .agg #[.int .i64 y.1, .int .i64 y.2]] W fun e w' => e = .returned (.int .i64 (cf x y)) ∧ Below W.heap.size W w' :=
 (compare_any cc x y W).mono fun _ _ ⟨he, q, os, hw⟩ => ⟨he, by rw [hw]; exact below_grow W q os⟩
set_option maxHeartbeats 800000 in
set_option maxRecDepth 100000 in
theorem less_any (x y : Dot) (w : World) : Calls Tryz.prog 66 #[.agg #[.int .i64 x.1, .int .i64 x.2], .agg #[.int .i64 y.1, .int .i64 y.2]] w (SaidD (dless x y) w) := by
 obtain ⟨a, b⟩ := x
 obtain ⟨c, d⟩ := y
 have hA : Below w.heap.size w ((w.alloc (.cells #[.int .i64 a, .int .i64 b] 51)).alloc (.cells #[.int .i64 c, .int .i64 d] 51)) := ((Below.refl _ _).alloc (Nat.le_refl _) _).alloc (by simp) _
 obtain ⟨r, hr⟩ : ∃ r, r = cf (a, b) (c, d) := ⟨_, rfl⟩
 have HC : Hid (∀ W, Calls Tryz.prog 98 #[.agg #[.int .i64 a, .int .i64 b], .agg #[.int .i64 c, .int .i64 d]] W fun e w' => e = .returned (.int .i64 r) ∧ Below W.heap.size W w') := fun W => by rw [hr]; exact compare_says (a, b) (c, d) W
 have HD : Hid (dless (a, b) (c, d) = decide (r < 0)) := by
  show _ = _
  rw [hr]
  have := cf_neg (a, b) (c, d)
  by_cases h : cf (a, b) (c, d) < 0
  ·
   rw [decide_eq_true h]; exact this.1 h
  ·
   rw [decide_eq_false h]
   cases h2 : dless (a, b) (c, d) with
   | false => rfl
   | true => exact absurd (this.2 h2) h
 obtain ⟨R, hR⟩ : ∃ R, R = dless (a, b) (c, d) := ⟨_, rfl⟩
 rw [← hR] at HD ⊢
 clear hr hR
 by_cases h : r < 0
 ·
  have HR : Hid (R = true) := by show _ = _; rw [HD.out]; exact decide_eq_true h
  have hd : decide (r < 0) = true := decide_eq_true h
  go_enter Tryz.func66, Tryz.ntmps66
  go_wp2_with fail
  (with_reducible refine (HC.out _).mono ?_)
  rintro e w1 ⟨rfl, b1⟩
  have hb := hA.trans (b1.mono hA.size)
  clear b1
  go_wp2
  go_ret
  rw [HR.out]; exact ⟨rfl, hb⟩
 ·
  have HR : Hid (R = false) := by show _ = _; rw [HD.out]; exact decide_eq_false h
  have hd : decide (r < 0) = false := decide_eq_false h
  clear h
  go_enter Tryz.func66, Tryz.ntmps66
  go_wp2_with fail
  (with_reducible refine (HC.out _).mono ?_)
  rintro e w1 ⟨rfl, b1⟩
  have hb := hA.trans (b1.mono hA.size)
  clear b1
  go_wp2
  go_ret
  rw [HR.out]; exact ⟨rfl, hb⟩
def CtxAt (w : World) (B : Nat) (v : Value) (c : dm.Ctx) : Prop := ∃ v1 v2, v = .agg #[v1, v2] ∧ Dots w B v1 c.1 ∧ Dots w B v2 c.2
theorem CtxAt.next {w w' : World} {v : Value} {c : dm.Ctx} (h : CtxAt w w.heap.size v c) (hb : Below w.heap.size w w') : CtxAt w' w'.heap.size v c := by
 obtain ⟨v1, v2, rfl, h1, h2⟩ := h
 exact ⟨v1, v2, rfl, Cells.next h1 hb, Cells.next h2 hb⟩
set_option maxHeartbeats 800000 in
set_option maxRecDepth 100000 in
theorem csame_any (a b : dm.Ctx) (va vb : Value) (w : World) (ha : CtxAt w w.heap.size va a) (hb : CtxAt w w.heap.size vb b) : Calls Tryz.prog 28 #[va, vb] w (SaidD (decide (a = b)) w) := by
 obtain ⟨a1, a2, rfl, p1, p2⟩ := ha
 obtain ⟨b1, b2, rfl, q1, q2⟩ := hb
 have hA : Below w.heap.size w ((w.alloc (.cells #[a1, a2] 25)).alloc (.cells #[b1, b2] 25)) := ((Below.refl _ _).alloc (Nat.le_refl _) _).alloc (by simp) _
 have E1 : Hid (∀ W, Below w.heap.size w W → Calls Tryz.prog 64 #[a1, b1] W (SaidD (decide (a.1 = b.1)) W)) := fun W hW => equal_anyD a.1 b.1 a1 b1 W (Cells.next p1 hW) (Cells.next q1 hW)
 have E2 : Hid (∀ W, Below w.heap.size w W → Calls Tryz.prog 64 #[a2, b2] W (SaidD (decide (a.2 = b.2)) W)) := fun W hW => equal_anyD a.2 b.2 a2 b2 W (Cells.next p2 hW) (Cells.next q2 hW)
 have HD : Hid (∀ r, decide (a.1 = b.1 ∧ a.2 = b.2) = r → decide (a = b) = r) := fun r h => by
  rw [← h]
  exact decide_eq_decide.2 ⟨fun e => by rw [e]; exact ⟨rfl, rfl⟩, fun e => Prod.ext e.1 e.2⟩
 obtain ⟨R, hR⟩ : ∃ R, R = decide (a = b) := ⟨_, rfl⟩
 rw [← hR] at HD ⊢
 obtain ⟨x1, x2⟩ := a
 obtain ⟨y1, y2⟩ := b
 simp only at E1 E2 HD
 clear hR p1 p2 q1 q2
 have hA0 : w.heap.size < ((w.alloc (.cells #[a1, a2] 25)).alloc (.cells #[b1, b2] 25)).heap.size := by simp; omega
 by_cases h1 : x1 = y1
 ·
  rw [decide_eq_true h1] at E1
  obtain ⟨r2, hr2⟩ : ∃ r2, r2 = decide (x2 = y2) := ⟨_, rfl⟩
  rw [← hr2] at E2
  have HR : Hid (R = r2) := HD.out r2 (by rw [hr2]; exact decide_eq_decide.2 ⟨fun e => e.2, fun e => ⟨h1, e⟩⟩)
  clear hr2 h1
  go_enter Tryz.func28, Tryz.ntmps28
  go_wp2_with fail
  (with_reducible refine (E1.out _ hA).mono ?_)
  rintro e w1 ⟨rfl, g1⟩
  have hb1 := hA.trans (g1.mono hA.size)
  have hA1 : w.heap.size + 1 < ((w.alloc (.cells #[a1, a2] 25)).alloc (.cells #[b1, b2] 25)).heap.size := by simp
  have c0 : w1.cell? ⟨w.heap.size, 1, none⟩ = some a2 := (g1.cell (p := ⟨w.heap.size, 1, none⟩) hA0).trans (box1 w a1 a2 _ _ () 1 _ rfl)
  have c1 : w1.cell? ⟨w.heap.size + 1, 1, none⟩ = some b2 := (g1.cell (p := ⟨w.heap.size + 1, 1, none⟩) hA1).trans (box1b w _ b1 b2 _ 1 _ rfl)
  have HE2 := Lib.hid (E2.out _ hb1)
  clear g1 hA0 hA1
  go_wp2_with fail
  (with_reducible refine HE2.out.mono ?_)
  rintro e w2 ⟨rfl, g2⟩
  have hb2 := hb1.trans (g2.mono hb1.size)
  clear g2
  go_wp2
  go_ret
  rw [HR.out]; exact ⟨rfl, hb2⟩
 ·
  rw [decide_eq_false h1] at E1
  have HR : Hid (R = false) := HD.out false (decide_eq_false (fun e => h1 e.1))
  clear h1
  go_enter Tryz.func28, Tryz.ntmps28
  go_wp2_with fail
  (with_reducible refine (E1.out _ hA).mono ?_)
  rintro e w1 ⟨rfl, g1⟩
  have hb1 := hA.trans (g1.mono hA.size)
  clear g1
  go_wp2
  go_ret
  rw [HR.out]; exact ⟨rfl, hb1⟩
end Go.Proofs.YtonknpdalemjkaaGreat
namespace Go.Proofs.YtonknpdalemjkaaGreat
open Go Go.RowKit Go.ChangeShapes cl Go.Sort
def OwnD (l : List Dot) (w : World) (e : Ending) (w' : World) : Prop := ∃ v', e = .returned v' ∧ w'.ownsRow w.heap.size 51 2 v' l.length (dcells l) ∧ Below w.heap.size w w'
set_option maxHeartbeats 800000 in
set_option maxRecDepth 100000 in
theorem clone_any (l : List Dot) (v : Value) (w : World) (h : Dots w w.heap.size v l) (hl : l.length ≤ 1000000) : Calls Tryz.prog 68 #[v] w (OwnD l w) := by
 obtain ⟨n, hn⟩ : ∃ n, n = l.length := ⟨_, rfl⟩
 have HN := Lib.hid hn
 obtain ⟨ao, cap, rfl⟩ : ∃ ao cap, v = .slice ao n cap := by
  obtain ⟨ao, cap, e, _⟩ := h.form
  exact ⟨ao, cap, by rw [hn]; exact e⟩
 have hn6 : n ≤ 1000000 := by omega
 have q22 : ∀ (w : World) (a : Option Addr) (n c n' c' : Nat), (binOp .eql 23 (.slice a n c) (.slice none n' c')).run Tryz.prog w = .ok (.bool a.isNone) w := fun w a n c n' c' => Lib.run_eql_slice_nil w _ _ a n c n' c' Tryz.underlying23
 have HC := Lib.hid h
 cases ao with
 | none =>
  have h0 : n = 0 := (Cells.news' h).1 rfl |>.1
  have hc0 : cap = 0 := (Cells.news' h).1 rfl |>.2
  have HL : Hid (l = []) := List.eq_nil_of_length_eq_zero (by omega)
  subst h0
  subst hc0
  clear h hn hl
  go_enter Tryz.func68, Tryz.ntmps68
  go_wp2
  go_ret
  refine ⟨_, rfl, ?_, Below.refl _ _⟩
  rw [HL.out]
  exact ⟨rfl, Or.inl ⟨rfl, rfl⟩⟩
 | some ad =>
  have HNA := Lib.hid (Cells.news' (h.below ((Below.refl _ _).alloc (Nat.le_refl _) (.cells #[] 51))))
  have HO0 : Hid ((w.alloc (.cells #[] 51)).ownsRow w.heap.size 51 2 (.slice (some ⟨w.heap.size, 0, none⟩) 0 0) 0 []) := own_none 51 (Nat.le_refl _) 2
  have HLN : Hid ((dcells l).length = n * 2) := by show _ = _; rw [dcells_len, HN.out]
  have hA : Below w.heap.size w (w.alloc (.cells #[] 51)) := (Below.refl _ _).alloc (Nat.le_refl _) _
  clear h hn hl
  go_enter Tryz.func68, Tryz.ntmps68
  go_wp2_with (at_builtin; refine kit.appN (.tmp 5) (.tmp 6) 23 rfl rfl w.heap.size Tryz.underlying23 infoDot rfl (by decide) (by decide) HO0.out rfl (dcells l) rfl HLN.out HNA.out.1 HNA.out.2 dcells_one (by omega) (by simp) ?_)
  intro v5 w5 hown5 hb5
  have HR : Hid (OwnD l w (.returned v5) w5) := by
   refine ⟨_, rfl, ?_, hA.trans hb5⟩
   rw [← HN.out]
   simpa using hown5
  clear hown5 hb5
  go_wp2
  go_ret
  exact HR.out
end Go.Proofs.YtonknpdalemjkaaGreat
namespace Go.Proofs.YtonknpdalemjkaaGreat
open Go Go.RowKit Go.ChangeShapes cl Go.Sort
namespace dm
def put1 (K : Int → Int) (d : Dot) : Int → Int := fun n => if n = d.1 then d.2 else K n
def upK (v : List Dot) : Int → Int := v.foldl put1 (fun _ => 0)
theorem upK_snoc (v : List Dot) (d : Dot) : upK (v ++ [d]) = put1 (upK v) d := by simp [upK]
theorem kn_cons (e : Dot) (r : List Dot) (n : Int) : kn (e :: r) n = if e.1 = n then e.2 else kn r n := rfl
theorem upK_fold : ∀ (v : List Dot) (K : Int → Int) (n : Int), v.Pairwise (fun a b => a.1 < b.1) → v.foldl put1 K n = if (∃ d ∈ v, d.1 = n) then kn v n else K n := by
 intro v
 induction v with
 | nil => intro K n _; simp
 | cons e r ih =>
  intro K n hp
  obtain ⟨h1, h2⟩ := List.pairwise_cons.1 hp
  rw [List.foldl_cons, ih _ _ h2, kn_cons]
  by_cases hr : ∃ d ∈ r, d.1 = n
  ·
   obtain ⟨d, hd, hn⟩ := hr
   have := h1 d hd
   rw [if_pos ⟨d, hd, hn⟩, if_pos ⟨d, List.mem_cons_of_mem _ hd, hn⟩, if_neg (by omega)]
  ·
   rw [if_neg hr]
   unfold put1
   by_cases he : n = e.1
   ·
    rw [if_pos he, if_pos ⟨e, List.mem_cons_self, he.symm⟩, if_pos he.symm]
   ·
    rw [if_neg he, if_neg]
    rintro ⟨d, hd, hn⟩
    rcases List.mem_cons.1 hd with rfl | hd
    ·
     exact he hn.symm
    ·
     exact hr ⟨d, hd, hn⟩
theorem upK_kn {v : List Dot} (h : v.Pairwise fun a b => a.1 < b.1) (n : Int) : upK v n = kn v n := by
 unfold upK
 rw [upK_fold v _ n h]
 split
 ·
  rfl
 ·
  rename_i hno
  rcases kn_cases v n with ⟨e, _⟩ | hm
  ·
   exact e.symm
  ·
   exact absurd ⟨_, hm, rfl⟩ hno
end dm
def KAt (W : World) (b : Nat) (K : Int → Int) : Prop := ∀ j : Nat, j < 16 → W.cell? ⟨b, j, none⟩ = some (.int .i64 (K j)) ∧ W.frozen? ⟨b, j, none⟩ = false
def arrV (K : Int → Int) : Value := .agg #[.int .i64 (K 0), .int .i64 (K 1), .int .i64 (K 2), .int .i64 (K 3), .int .i64 (K 4), .int .i64 (K 5), .int .i64 (K 6), .int .i64 (K 7), .int .i64 (K 8), .int .i64 (K 9), .int .i64 (K 10), .int .i64 (K 11), .int .i64 (K 12), .int .i64 (K 13), .int .i64 (K 14), .int .i64 (K 15)]
theorem KAt.put {W : World} {b : Nat} {K : Int → Int} (h : KAt W b K) (d : Dot) {m : Nat} (hm : d.1 = (m : Int)) (hm6 : m < 16) : KAt (W.setCell ⟨b, m, none⟩ (.int .i64 d.2)) b (dm.put1 K d) := by
 intro j hj
 obtain ⟨h1, h2⟩ := h j hj
 refine ⟨?_, ?_⟩
 ·
  unfold dm.put1
  by_cases e : j = m
  ·
   subst e
   rw [if_pos hm.symm]
   exact World.cell?_setCell_same _ _ _ h1
  ·
   rw [if_neg (by omega)]
   exact (World.cell?_setCell_other _ _ _ _ (fun e2 => e (by simpa using e2.symm))).trans h1
 ·
  rw [World.frozen?_setCell]; exact h2
theorem zero_at (j : Nat) (hj : j < 16) : (#[.int .i64 0, .int .i64 0, .int .i64 0, .int .i64 0, .int .i64 0, .int .i64 0, .int .i64 0, .int .i64 0, .int .i64 0, .int .i64 0, .int .i64 0, .int .i64 0, .int .i64 0, .int .i64 0, .int .i64 0, .int .i64 0] : Array Value)[j]? = some (.int .i64 0) := by
 rcases (by omega : j = 0 ∨ j = 1 ∨ j = 2 ∨ j = 3 ∨ j = 4 ∨ j = 5 ∨ j = 6 ∨ j = 7 ∨ j = 8 ∨ j = 9 ∨ j = 10 ∨ j = 11 ∨ j = 12 ∨ j = 13 ∨ j = 14 ∨ j = 15) with rfl | rfl | rfl | rfl | rfl | rfl | rfl | rfl | rfl | rfl | rfl | rfl | rfl | rfl | rfl | rfl <;> rfl
theorem KAt.below {W W' : World} {b : Nat} {K : Int → Int} (h : KAt W b K) {B : Nat} (hb : Below B W W') (hlt : b < B) : KAt W' b K := fun j hj =>
 ⟨(hb.cell (p := ⟨b, j, none⟩) hlt).trans (h j hj).1, (hb.frozen (p := ⟨b, j, none⟩) hlt).trans (h j hj).2⟩
theorem KAt.zero (W : World) (t : TypeId) : KAt (W.alloc (.cells #[.int .i64 0, .int .i64 0, .int .i64 0, .int .i64 0, .int .i64 0, .int .i64 0, .int .i64 0, .int .i64 0, .int .i64 0, .int .i64 0, .int .i64 0, .int .i64 0, .int .i64 0, .int .i64 0, .int .i64 0, .int .i64 0] t)) W.heap.size (fun _ => 0) := fun j hj =>
 ⟨by rw [World.cell?_alloc_at _ _ _ _ rfl]; exact zero_at j hj, World.frozen?_alloc_at _ _ _ _ rfl⟩
set_option maxHeartbeats 3200000 in
set_option maxRecDepth 100000 in
theorem upTo_any (c : dm.Ctx) (v : Value) (w : World) (h : CtxAt w w.heap.size v c) (hv : ∀ d ∈ c.1, valid d = true) : Calls Tryz.prog 67 #[v] w fun e w' => e = .returned (arrV (dm.upK c.1)) ∧ Below w.heap.size w w' := by
 obtain ⟨v1, v2, rfl, p1, p2⟩ := h
 obtain ⟨l, l2⟩ := c
 simp only at p1 p2 hv ⊢
 obtain ⟨n, hn⟩ : ∃ n, n = l.length := ⟨_, rfl⟩
 have HN := Lib.hid hn
 obtain ⟨ao, cap, rfl, hn63⟩ : ∃ ao cap, v1 = .slice ao n cap ∧ n ≤ 9223372036854775807 := by
  obtain ⟨ao, cap, e, _, h9⟩ := p1.form
  unfold maxLen at h9
  exact ⟨ao, cap, by rw [hn]; exact e, by rw [hn]; exact h9⟩
 have HC := Lib.hid p1
 have HV := Lib.hid hv
 have hA : Below w.heap.size w (((w.alloc (.cells #[.slice ao n cap, v2] 25)).alloc (.cells #[.int .i64 0, .int .i64 0, .int .i64 0, .int .i64 0, .int .i64 0, .int .i64 0, .int .i64 0, .int .i64 0, .int .i64 0, .int .i64 0, .int .i64 0, .int .i64 0, .int .i64 0, .int .i64 0, .int .i64 0, .int .i64 0] 94)).alloc (.cells #[.int .i64 0, .int .i64 0, .int .i64 0, .int .i64 0, .int .i64 0, .int .i64 0, .int .i64 0, .int .i64 0, .int .i64 0, .int .i64 0, .int .i64 0, .int .i64 0, .int .i64 0, .int .i64 0, .int .i64 0, .int .i64 0] 94)) := (((Below.refl _ _).alloc (Nat.le_refl _) _).alloc (by simp) _).alloc (by simp; omega) _
 have hs1 : (w.alloc (.cells #[.slice ao n cap, v2] 25)).heap.size = w.heap.size + 1 := World.size_alloc _ _
 have hs2 : ((w.alloc (.cells #[.slice ao n cap, v2] 25)).alloc (.cells #[.int .i64 0, .int .i64 0, .int .i64 0, .int .i64 0, .int .i64 0, .int .i64 0, .int .i64 0, .int .i64 0, .int .i64 0, .int .i64 0, .int .i64 0, .int .i64 0, .int .i64 0, .int .i64 0, .int .i64 0, .int .i64 0] 94)).heap.size = w.heap.size + 1 + 1 := by rw [World.size_alloc, hs1]
 have K3 : KAt (((w.alloc (.cells #[.slice ao n cap, v2] 25)).alloc (.cells #[.int .i64 0, .int .i64 0, .int .i64 0, .int .i64 0, .int .i64 0, .int .i64 0, .int .i64 0, .int .i64 0, .int .i64 0, .int .i64 0, .int .i64 0, .int .i64 0, .int .i64 0, .int .i64 0, .int .i64 0, .int .i64 0] 94)).alloc (.cells #[.int .i64 0, .int .i64 0, .int .i64 0, .int .i64 0, .int .i64 0, .int .i64 0, .int .i64 0, .int .i64 0, .int .i64 0, .int .i64 0, .int .i64 0, .int .i64 0, .int .i64 0, .int .i64 0, .int .i64 0, .int .i64 0] 94)) (w.heap.size + 1 + 1) (fun _ => 0) := by
  have := KAt.zero ((w.alloc (.cells #[.slice ao n cap, v2] 25)).alloc (.cells #[.int .i64 0, .int .i64 0, .int .i64 0, .int .i64 0, .int .i64 0, .int .i64 0, .int .i64 0, .int .i64 0, .int .i64 0, .int .i64 0, .int .i64 0, .int .i64 0, .int .i64 0, .int .i64 0, .int .i64 0, .int .i64 0] 94)) 94
  rw [hs2] at this
  exact this
 have R3 : KAt (((w.alloc (.cells #[.slice ao n cap, v2] 25)).alloc (.cells #[.int .i64 0, .int .i64 0, .int .i64 0, .int .i64 0, .int .i64 0, .int .i64 0, .int .i64 0, .int .i64 0, .int .i64 0, .int .i64 0, .int .i64 0, .int .i64 0, .int .i64 0, .int .i64 0, .int .i64 0, .int .i64 0] 94)).alloc (.cells #[.int .i64 0, .int .i64 0, .int .i64 0, .int .i64 0, .int .i64 0, .int .i64 0, .int .i64 0, .int .i64 0, .int .i64 0, .int .i64 0, .int .i64 0, .int .i64 0, .int .i64 0, .int .i64 0, .int .i64 0, .int .i64 0] 94)) (w.heap.size + 1) (fun _ => 0) := by
  have := KAt.zero (w.alloc (.cells #[.slice ao n cap, v2] 25)) 94
  rw [hs1] at this
  exact this.below ((Below.refl _ _).alloc (Nat.le_refl _) _) (by rw [hs2]; omega)
 have hs3 : (((w.alloc (.cells #[.slice ao n cap, v2] 25)).alloc (.cells #[.int .i64 0, .int .i64 0, .int .i64 0, .int .i64 0, .int .i64 0, .int .i64 0, .int .i64 0, .int .i64 0, .int .i64 0, .int .i64 0, .int .i64 0, .int .i64 0, .int .i64 0, .int .i64 0, .int .i64 0, .int .i64 0] 94)).alloc (.cells #[.int .i64 0, .int .i64 0, .int .i64 0, .int .i64 0, .int .i64 0, .int .i64 0, .int .i64 0, .int .i64 0, .int .i64 0, .int .i64 0, .int .i64 0, .int .i64 0, .int .i64 0, .int .i64 0, .int .i64 0, .int .i64 0] 94)).heap.size = w.heap.size + 3 := by rw [World.size_alloc, hs2]
 have HKR := Lib.hid (And.intro K3 R3)
 have HS3 := Lib.hid hs3
 clear p1 p2 hv hn K3 R3 hs1 hs2 hs3
 go_enter Tryz.func67, Tryz.ntmps67
 go_wp2
 generalize (((w.alloc (.cells #[.slice ao n cap, v2] 25)).alloc (.cells #[.int .i64 0, .int .i64 0, .int .i64 0, .int .i64 0, .int .i64 0, .int .i64 0, .int .i64 0, .int .i64 0, .int .i64 0, .int .i64 0, .int .i64 0, .int .i64 0, .int .i64 0, .int .i64 0, .int .i64 0, .int .i64 0] 94)).alloc (.cells #[.int .i64 0, .int .i64 0, .int .i64 0, .int .i64 0, .int .i64 0, .int .i64 0, .int .i64 0, .int .i64 0, .int .i64 0, .int .i64 0, .int .i64 0, .int .i64 0, .int .i64 0, .int .i64 0, .int .i64 0, .int .i64 0] 94)) = w3 at hA HKR HS3 ⊢
 have hw3 := HS3.out
 go_loopw [5, 9] (fun _ i wr => ∃ k : Nat, i = .int .i64 k ∧ k ≤ n ∧ Hid (KAt wr (w.heap.size + 1 + 1) (dm.upK (l.take k))) ∧ Below (w.heap.size + 1 + 1) w3 wr) (fun _ i _ => n - (intOf i).toNat)
 case atStart => exact ⟨0, rfl, Nat.zero_le _, HKR.out.1, Below.refl _ _⟩
 case round =>
  obtain ⟨k, rfl, hk, HK, hbl⟩ := hrel
  have hz : w.heap.size + 3 ≤ wr.heap.size := by have := hbl.size; omega
  have hbw := hA.trans (hbl.mono (by omega))
  by_cases hlt : k < n
  ·
   obtain ⟨b0, off, rfl, hB, p0, p1⟩ := Dots.get HC.out HN.out hlt
   have HKL : Hid (k < l.length) := by show k < l.length; rw [← HN.out]; exact hlt
   have hvd := HV.out (l.getD k (0, 0)) (by have := HKL.out; simp [List.getD, this])
   obtain ⟨⟨a, b⟩, hx⟩ : ∃ x, x = l.getD k (0, 0) := ⟨_, rfl⟩
   rw [← hx] at p0 p1 hvd
   simp only at p0 p1
   have e0 := (hbw.cell (p := ⟨b0, off + k * 2, none⟩) hB).trans p0
   have e1 := (hbw.cell (p := ⟨b0, off + k * 2 + 1, none⟩) hB).trans p1
   have hva := (dm.valid_iff (a, b)).1 hvd
   simp only at hva
   obtain ⟨m, rfl⟩ : ∃ m : Nat, a = (m : Int) := ⟨a.toNat, by omega⟩
   have hm6 : m < 16 := by omega
   have hkI : (k : Int) < (n : Int) := by omega
   have hmI : (m : Int) < 16 := by omega
   have HKA : Hid (KAt (wr.alloc (.cells #[.int .i64 (m : Int), .int .i64 b] 51)) (w.heap.size + 1 + 1) (dm.upK (l.take k))) := HK.out.below ((Below.refl _ _).alloc (Nat.le_refl _) _) (by omega)
   have HK3 : Hid (KAt ((wr.alloc (.cells #[.int .i64 (m : Int), .int .i64 b] 51)).setCell ⟨w.heap.size + 1 + 1, m, none⟩ (.int .i64 b)) (w.heap.size + 1 + 1) (dm.upK (l.take (k + 1)))) := by
    have e : l.take (k + 1) = l.take k ++ [((m : Int), b)] := by
     rw [List.take_succ_eq_append_getElem HKL.out, hx]
     simp [List.getD, HKL.out]
    show KAt _ _ _
    rw [e, dm.upK_snoc]
    exact HKA.out.put ((m : Int), b) rfl hm6
   have hcm := (HKA.out m hm6).1
   have hfm := (HKA.out m hm6).2
   have hbl2 := (hbl.alloc (by omega) (.cells #[.int .i64 (m : Int), .int .i64 b] 51)).setCell (p := ⟨w.heap.size + 1 + 1, m, none⟩) (Nat.le_refl _) (.int .i64 b)
   have hne : ¬ w.heap.size + 1 + 1 = wr.heap.size := by omega
   have hne2 : ¬ wr.heap.size = w.heap.size + 1 + 1 := by omega
   obtain ⟨u, hu⟩ : ∃ u, u = dm.upK (l.take k) (m : Int) := ⟨_, rfl⟩
   rw [← hu] at hcm
   clear p0 p1 hx hva hvd hu
   go_wp2
   go_roundw
   case rel => exact ⟨k + 1, by go_num, by omega, HK3.out, hbl2⟩
   case measure => simp [intOf]; omega
  ·
   obtain rfl : k = n := by omega
   have HKL : Hid (KAt wr (w.heap.size + 1 + 1) (dm.upK l)) := by
    have := HK.out
    rw [List.take_of_length_le (by rw [HN.out]; exact Nat.le_refl _)] at this
    exact this
   have HR : Hid (KAt wr (w.heap.size + 1) (fun _ => 0)) := HKR.out.2.below hbl (by omega)
   have c0 := (HKL.out 0 (by omega)).1
   have c1 := (HKL.out 1 (by omega)).1
   have c2 := (HKL.out 2 (by omega)).1
   have c3 := (HKL.out 3 (by omega)).1
   have c4 := (HKL.out 4 (by omega)).1
   have c5 := (HKL.out 5 (by omega)).1
   have c6 := (HKL.out 6 (by omega)).1
   have c7 := (HKL.out 7 (by omega)).1
   have c8 := (HKL.out 8 (by omega)).1
   have c9 := (HKL.out 9 (by omega)).1
   have c10 := (HKL.out 10 (by omega)).1
   have c11 := (HKL.out 11 (by omega)).1
   have c12 := (HKL.out 12 (by omega)).1
   have c13 := (HKL.out 13 (by omega)).1
   have c14 := (HKL.out 14 (by omega)).1
   have c15 := (HKL.out 15 (by omega)).1
   have z0 := (HR.out 0 (by omega)).1
   have y0 := (HR.out 0 (by omega)).2
   have z1 := (HR.out 1 (by omega)).1
   have y1 := (HR.out 1 (by omega)).2
   have z2 := (HR.out 2 (by omega)).1
   have y2 := (HR.out 2 (by omega)).2
   have z3 := (HR.out 3 (by omega)).1
   have y3 := (HR.out 3 (by omega)).2
   have z4 := (HR.out 4 (by omega)).1
   have y4 := (HR.out 4 (by omega)).2
   have z5 := (HR.out 5 (by omega)).1
   have y5 := (HR.out 5 (by omega)).2
   have z6 := (HR.out 6 (by omega)).1
   have y6 := (HR.out 6 (by omega)).2
   have z7 := (HR.out 7 (by omega)).1
   have y7 := (HR.out 7 (by omega)).2
   have z8 := (HR.out 8 (by omega)).1
   have y8 := (HR.out 8 (by omega)).2
   have z9 := (HR.out 9 (by omega)).1
   have y9 := (HR.out 9 (by omega)).2
   have z10 := (HR.out 10 (by omega)).1
   have y10 := (HR.out 10 (by omega)).2
   have z11 := (HR.out 11 (by omega)).1
   have y11 := (HR.out 11 (by omega)).2
   have z12 := (HR.out 12 (by omega)).1
   have y12 := (HR.out 12 (by omega)).2
   have z13 := (HR.out 13 (by omega)).1
   have y13 := (HR.out 13 (by omega)).2
   have z14 := (HR.out 14 (by omega)).1
   have y14 := (HR.out 14 (by omega)).2
   have z15 := (HR.out 15 (by omega)).1
   have y15 := (HR.out 15 (by omega)).2
   obtain ⟨k0, hk0⟩ : ∃ x, x = dm.upK l ((0 : Nat) : Int) := ⟨_, rfl⟩
   rw [← hk0] at c0
   obtain ⟨k1, hk1⟩ : ∃ x, x = dm.upK l ((1 : Nat) : Int) := ⟨_, rfl⟩
   rw [← hk1] at c1
   obtain ⟨k2, hk2⟩ : ∃ x, x = dm.upK l ((2 : Nat) : Int) := ⟨_, rfl⟩
   rw [← hk2] at c2
   obtain ⟨k3, hk3⟩ : ∃ x, x = dm.upK l ((3 : Nat) : Int) := ⟨_, rfl⟩
   rw [← hk3] at c3
   obtain ⟨k4, hk4⟩ : ∃ x, x = dm.upK l ((4 : Nat) : Int) := ⟨_, rfl⟩
   rw [← hk4] at c4
   obtain ⟨k5, hk5⟩ : ∃ x, x = dm.upK l ((5 : Nat) : Int) := ⟨_, rfl⟩
   rw [← hk5] at c5
   obtain ⟨k6, hk6⟩ : ∃ x, x = dm.upK l ((6 : Nat) : Int) := ⟨_, rfl⟩
   rw [← hk6] at c6
   obtain ⟨k7, hk7⟩ : ∃ x, x = dm.upK l ((7 : Nat) : Int) := ⟨_, rfl⟩
   rw [← hk7] at c7
   obtain ⟨k8, hk8⟩ : ∃ x, x = dm.upK l ((8 : Nat) : Int) := ⟨_, rfl⟩
   rw [← hk8] at c8
   obtain ⟨k9, hk9⟩ : ∃ x, x = dm.upK l ((9 : Nat) : Int) := ⟨_, rfl⟩
   rw [← hk9] at c9
   obtain ⟨k10, hk10⟩ : ∃ x, x = dm.upK l ((10 : Nat) : Int) := ⟨_, rfl⟩
   rw [← hk10] at c10
   obtain ⟨k11, hk11⟩ : ∃ x, x = dm.upK l ((11 : Nat) : Int) := ⟨_, rfl⟩
   rw [← hk11] at c11
   obtain ⟨k12, hk12⟩ : ∃ x, x = dm.upK l ((12 : Nat) : Int) := ⟨_, rfl⟩
   rw [← hk12] at c12
   obtain ⟨k13, hk13⟩ : ∃ x, x = dm.upK l ((13 : Nat) : Int) := ⟨_, rfl⟩
   rw [← hk13] at c13
   obtain ⟨k14, hk14⟩ : ∃ x, x = dm.upK l ((14 : Nat) : Int) := ⟨_, rfl⟩
   rw [← hk14] at c14
   obtain ⟨k15, hk15⟩ : ∃ x, x = dm.upK l ((15 : Nat) : Int) := ⟨_, rfl⟩
   rw [← hk15] at c15
   have HAR : Hid (arrV (dm.upK l) = .agg #[.int .i64 k0, .int .i64 k1, .int .i64 k2, .int .i64 k3, .int .i64 k4, .int .i64 k5, .int .i64 k6, .int .i64 k7, .int .i64 k8, .int .i64 k9, .int .i64 k10, .int .i64 k11, .int .i64 k12, .int .i64 k13, .int .i64 k14, .int .i64 k15]) := by
    show arrV _ = _
    unfold arrV
    rw [hk0, hk1, hk2, hk3, hk4, hk5, hk6, hk7, hk8, hk9, hk10, hk11, hk12, hk13, hk14, hk15]
    rfl
   clear hk0 hk1 hk2 hk3 hk4 hk5 hk6 hk7 hk8 hk9 hk10 hk11 hk12 hk13 hk14 hk15
   have HB := Lib.hid ((((((((((((((((hbw.setCell (p := ⟨w.heap.size + 1, 0, none⟩) (Nat.le_succ _) (.int .i64 k0)).setCell (p := ⟨w.heap.size + 1, 1, none⟩) (Nat.le_succ _) (.int .i64 k1)).setCell (p := ⟨w.heap.size + 1, 2, none⟩) (Nat.le_succ _) (.int .i64 k2)).setCell (p := ⟨w.heap.size + 1, 3, none⟩) (Nat.le_succ _) (.int .i64 k3)).setCell (p := ⟨w.heap.size + 1, 4, none⟩) (Nat.le_succ _) (.int .i64 k4)).setCell (p := ⟨w.heap.size + 1, 5, none⟩) (Nat.le_succ _) (.int .i64 k5)).setCell (p := ⟨w.heap.size + 1, 6, none⟩) (Nat.le_succ _) (.int .i64 k6)).setCell (p := ⟨w.heap.size + 1, 7, none⟩) (Nat.le_succ _) (.int .i64 k7)).setCell (p := ⟨w.heap.size + 1, 8, none⟩) (Nat.le_succ _) (.int .i64 k8)).setCell (p := ⟨w.heap.size + 1, 9, none⟩) (Nat.le_succ _) (.int .i64 k9)).setCell (p := ⟨w.heap.size + 1, 10, none⟩) (Nat.le_succ _) (.int .i64 k10)).setCell (p := ⟨w.heap.size + 1, 11, none⟩) (Nat.le_succ _) (.int .i64 k11)).setCell (p := ⟨w.heap.size + 1, 12, none⟩) (Nat.le_succ _) (.int .i64 k12)).setCell (p := ⟨w.heap.size + 1, 13, none⟩) (Nat.le_succ _) (.int .i64 k13)).setCell (p := ⟨w.heap.size + 1, 14, none⟩) (Nat.le_succ _) (.int .i64 k14)).setCell (p := ⟨w.heap.size + 1, 15, none⟩) (Nat.le_succ _) (.int .i64 k15))
   go_wp2
   refine bodyPost_ret (v := .agg #[.int .i64 k0, .int .i64 k1, .int .i64 k2, .int .i64 k3, .int .i64 k4, .int .i64 k5, .int .i64 k6, .int .i64 k7, .int .i64 k8, .int .i64 k9, .int .i64 k10, .int .i64 k11, .int .i64 k12, .int .i64 k13, .int .i64 k14, .int .i64 k15]) (by simp [results, Tryz.results67, go_sem, z0, z1, z2, z3, z4, z5, z6, z7, z8, z9, z10, z11, z12, z13, z14, z15]) rfl ?_
   rw [HAR.out]
   exact ⟨rfl, HB.out⟩
end Go.Proofs.YtonknpdalemjkaaGreat
