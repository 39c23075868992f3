/- texts put together: DelRis. -/
import Derived.Test.YtonknpdalemjkaaGreatDe00
import Derived.Test.YtonknpdalemjkaaGreatDe01
import Derived.Test.YtonknpdalemjkaaGreatDe02
import Derived.Test.YtonknpdalemjkaaGreatDe03
import Derived.Test.YtonknpdalemjkaaGreatDe04
import Derived.Test.YtonknpdalemjkaaGreatDe05
import Derived.Test.YtonknpdalemjkaaGreatDe06
import Derived.Test.YtonknpdalemjkaaGreatDe07
import Derived.Test.YtonknpdalemjkaaGreatDe08
import Derived.Test.YtonknpdalemjkaaGreatDe09
import Derived.Test.YtonknpdalemjkaaGreatDe10
import Derived.Test.YtonknpdalemjkaaGreatDe11
import Derived.Test.YtonknpdalemjkaaGreatDe12
import Derived.Test.YtonknpdalemjkaaGreatDe13
import Derived.Test.YtonknpdalemjkaaGreatDe14
import Derived.Test.YtonknpdalemjkaaGreatDe15
import Derived.Test.YtonknpdalemjkaaGreatDe16
import Derived.Test.YtonknpdalemjkaaGreatDe17
import Derived.Test.YtonknpdalemjkaaGreatDe18
import Derived.Test.YtonknpdalemjkaaGreatDe19
import Derived.Test.YtonknpdalemjkaaGreatDe20
import Derived.Test.YtonknpdalemjkaaGreatDe21
import Derived.Test.YtonknpdalemjkaaGreatDe22
import Derived.Test.YtonknpdalemjkaaGreatDe23
import Derived.Test.YtonknpdalemjkaaGreatDe24
import Derived.Test.YtonknpdalemjkaaGreatDn00
import Derived.Test.YtonknpdalemjkaaGreatDn01
import Derived.Test.YtonknpdalemjkaaGreatDn11
import Derived.Test.YtonknpdalemjkaaGreatDn23
import Derived.Test.YtonknpdalemjkaaGreatDn25
import Derived.Test.YtonknpdalemjkaaGreatDn26
import Derived.Test.YtonknpdalemjkaaGreatDn27
open List (setIfInBounds_toArray set_cons_zero set_cons_succ take_succ_cons take_zero drop_succ_cons drop_zero)
namespace Go.Proofs.YtonknpdalemjkaaGreat
open Go Go.RowKit Go.ChangeShapes cl
abbrev UpD (l : List Dot) : Prop := l.Pairwise fun a b => dless a b = true
structure RInv (A B A' B' O : List Dot) : Prop where
 mem : ∀ d, (d ∈ O ∨ d ∈ A' ∨ d ∈ B') ↔ (d ∈ A ∨ d ∈ B)
 upA : UpD A'
 upB : UpD B'
 upO : UpD O
 oa : ∀ o ∈ O, ∀ x ∈ A', dless o x = true
 ob : ∀ o ∈ O, ∀ x ∈ B', dless o x = true
 few : O.length + A'.length + B'.length ≤ A.length + B.length
theorem dless_trans' {x y z : Dot} (h : dless x y = true) (h2 : dless y z = true) : dless x z = true := by
 simp only [dless, decide_eq_true_eq] at *
 omega
theorem dless_tri {x y : Dot} (h : ¬ dless x y = true) (h2 : x ≠ y) : dless y x = true := by
 obtain ⟨a, b⟩ := x
 obtain ⟨c, d⟩ := y
 simp only [dless, decide_eq_true_eq, ne_eq, Prod.mk.injEq] at *
 omega
theorem rinv_start {A B : List Dot} (hA : UpD A) (hB : UpD B) : RInv A B A B [] := ⟨fun d => by simp, hA, hB, List.Pairwise.nil, (fun o h => by cases h), (fun o h => by cases h), by simp⟩
theorem up_snoc {O : List Dot} {x : Dot} (h : UpD O) (hx : ∀ o ∈ O, dless o x = true) : UpD (O ++ [x]) :=
 List.pairwise_append.2 ⟨h, List.pairwise_singleton _ _, fun a ha b hb => by rw [List.mem_singleton.1 hb]; exact hx a ha⟩
theorem rinv_both {A B A' B' O : List Dot} {x : Dot} (h : RInv A B (x :: A') (x :: B') O) : RInv A B A' B' (O ++ [x]) := by
 have a1 := List.pairwise_cons.1 h.upA
 have b1 := List.pairwise_cons.1 h.upB
 refine ⟨fun d => ?_, a1.2, b1.2, up_snoc h.upO fun o ho => h.oa o ho x List.mem_cons_self, fun o ho y hy => ?_, fun o ho y hy => ?_, ?_⟩
 ·
  rw [← h.mem d]; simp only [List.mem_append, List.mem_cons, List.not_mem_nil, or_false]
  constructor
  ·
   rintro ((h | h) | h | h) <;> simp [h]
  ·
   rintro (h | (h | h) | h | h) <;> simp [h]
 ·
  rcases List.mem_append.1 ho with ho | ho
  ·
   exact h.oa o ho y (List.mem_cons_of_mem _ hy)
  ·
   rw [List.mem_singleton.1 ho]; exact a1.1 y hy
 ·
  rcases List.mem_append.1 ho with ho | ho
  ·
   exact h.ob o ho y (List.mem_cons_of_mem _ hy)
  ·
   rw [List.mem_singleton.1 ho]; exact b1.1 y hy
 ·
  have := h.few
  simp only [List.length_cons, List.length_append, List.length_nil] at *
  omega
theorem rinv_left {A B A' B' O : List Dot} {x y : Dot} (h : RInv A B (x :: A') (y :: B') O) (hl : dless x y = true) : RInv A B A' (y :: B') (O ++ [x]) := by
 have a1 := List.pairwise_cons.1 h.upA
 have b1 := List.pairwise_cons.1 h.upB
 refine ⟨fun d => ?_, a1.2, h.upB, up_snoc h.upO fun o ho => h.oa o ho x List.mem_cons_self, fun o ho z hz => ?_, fun o ho z hz => ?_, ?_⟩
 ·
  rw [← h.mem d]; simp only [List.mem_append, List.mem_cons, List.not_mem_nil, or_false]
  constructor
  ·
   rintro ((h | h) | h | h | h) <;> simp [h]
  ·
   rintro (h | (h | h) | h | h) <;> simp [h]
 ·
  rcases List.mem_append.1 ho with ho | ho
  ·
   exact h.oa o ho z (List.mem_cons_of_mem _ hz)
  ·
   rw [List.mem_singleton.1 ho]; exact a1.1 z hz
 ·
  rcases List.mem_append.1 ho with ho | ho
  ·
   exact h.ob o ho z hz
  ·
   rw [List.mem_singleton.1 ho]
   rcases List.mem_cons.1 hz with rfl | hz
   ·
    exact hl
   ·
    exact dless_trans' hl (b1.1 z hz)
 ·
  have := h.few
  simp only [List.length_cons, List.length_append, List.length_nil] at *
  omega
theorem rinv_right {A B A' B' O : List Dot} {x y : Dot} (h : RInv A B (x :: A') (y :: B') O) (hl : dless y x = true) : RInv A B (x :: A') B' (O ++ [y]) := by
 have a1 := List.pairwise_cons.1 h.upA
 have b1 := List.pairwise_cons.1 h.upB
 refine ⟨fun d => ?_, h.upA, b1.2, up_snoc h.upO fun o ho => h.ob o ho y List.mem_cons_self, fun o ho z hz => ?_, fun o ho z hz => ?_, ?_⟩
 ·
  rw [← h.mem d]; simp only [List.mem_append, List.mem_cons, List.not_mem_nil, or_false]
  constructor
  ·
   rintro ((h | h) | (h | h) | h) <;> simp [h]
  ·
   rintro (h | (h | h) | h | h) <;> simp [h]
 ·
  rcases List.mem_append.1 ho with ho | ho
  ·
   exact h.oa o ho z hz
  ·
   rw [List.mem_singleton.1 ho]
   rcases List.mem_cons.1 hz with rfl | hz
   ·
    exact hl
   ·
    exact dless_trans' hl (a1.1 z hz)
 ·
  rcases List.mem_append.1 ho with ho | ho
  ·
   exact h.ob o ho z (List.mem_cons_of_mem _ hz)
  ·
   rw [List.mem_singleton.1 ho]; exact b1.1 z hz
 ·
  have := h.few
  simp only [List.length_cons, List.length_append, List.length_nil] at *
  omega
theorem rinv_end {A B A' B' O : List Dot} (h : RInv A B A' B' O) (he : A' = [] ∨ B' = []) : UpD (O ++ A' ++ B') ∧ ∀ d, d ∈ O ++ A' ++ B' ↔ d ∈ A ∨ d ∈ B := by
 refine ⟨?_, fun d => ?_⟩
 ·
  rcases he with rfl | rfl
  ·
   rw [List.append_nil]
   exact List.pairwise_append.2 ⟨h.upO, h.upB, h.ob⟩
  ·
   rw [List.append_nil]
   exact List.pairwise_append.2 ⟨h.upO, h.upA, h.oa⟩
 ·
  rw [← h.mem d]; simp only [List.mem_append, or_assoc]
theorem Dots.cons {w : World} {B n c : Nat} {ao : Option Addr} {l : List Dot} (h : Dots w B (.slice ao n c) l) (hn : 0 < n) : ∃ x y l' b off, l = (x, y) :: l' ∧ ao = some ⟨b, off, none⟩ ∧ b < B ∧ n = l'.length + 1 ∧ n ≤ c ∧ w.cell? ⟨b, off, none⟩ = some (.int .i64 x) ∧ w.cell? ⟨b, off + 1, none⟩ = some (.int .i64 y) ∧
  ∃ q, (if c = 1 then some ⟨b, off, none⟩ else some ⟨b, off + 2, none⟩ : Option Addr) = q ∧ Dots w B (.slice q (n - 1) (c - 1)) l' := by
 have hl : n = l.length := by
  obtain ⟨_, _, e, _⟩ := h.form
  simp only [Value.slice.injEq] at e
  exact e.2.1
 have hnc : n ≤ c := by
  obtain ⟨_, _, e, hc, _⟩ := h.form
  simp only [Value.slice.injEq] at e
  rw [e.2.1, e.2.2]; exact hc
 obtain ⟨b, off, rfl, hb, h0, h1⟩ := Dots.get h hl hn
 cases l with
 | nil => simp at hl; omega
 | cons z l' =>
  obtain ⟨x, y⟩ := z
  subst hl
  have hd := Cells.drop (i := 1) h (by simp)
  refine ⟨x, y, l', b, off, rfl, rfl, hb, rfl, hnc, by simpa using h0, by simpa using h1, _, rfl, ?_⟩
  show Cells _ _ _ l'.length 2 (dcells l')
  by_cases e : c = 1
  ·
   have e2 : l' = [] := List.eq_nil_of_length_eq_zero (by simp at hnc; omega)
   rw [if_pos e, e2, e]
   exact Cells.cut0
  ·
   rw [if_neg e]
   simp only [Option.map_some, Addr.add_lit, Nat.one_mul, Nat.add_sub_cancel, List.length_cons] at hd ⊢
   exact hd
theorem Dots.len {w : World} {B n c : Nat} {ao : Option Addr} {l : List Dot} (h : Dots w B (.slice ao n c) l) : n = l.length := by
 obtain ⟨_, _, e, _⟩ := h.form
 simp only [Value.slice.injEq] at e
 exact e.2.1
theorem appN {P : Program} {w : World} {ops : Array Oper} {rest : List Oper} {o : Oper} {a : Act} {Q : Exit → Act → World → Prop}
  (s x : Operand) (t : TypeId) (hgd : o.guard = none)
  (ho : o.op = .call { callee := .builtin .append, args := #[s, x], argTypes := #[t, t] })
  (base : Nat) {e : TypeId} {z : Value} {size bytes : Nat} (ht : P.underlying t = some (.slice e)) (hi : (P.info? e).map (fun i => (i.zero, i.size, i.bytes)) = some (some z, size, bytes))
  (hzs : z.cells.size = size) (hsz : 0 < size) (hb1 : 0 < bytes)
  {v : Value} {n : Nat} {xs : List Value} (hown : w.ownsRow base e size v n xs) (hs : a.eval s = v)
  {ao : Option Addr} {m c : Nat} {news : List Value} (hx : a.eval x = .slice ao m c) (hc : Cells w w.heap.size (.slice ao m c) m size news) (h1 : ∀ u ∈ news, u.oneCell' = true)
  (hbytes : (n + m) * bytes ≤ 140737488355328) (hbase : base ≤ w.heap.size)
  (h : ∀ v' w', w'.ownsRow base e size v' (n + m) (xs ++ news) → w.grownBy w' v.ownBlock → wpList P ops Q rest (a.put o.dst v') w') :
  wpList P ops Q (o :: rest) a w := by
 obtain ⟨i, hi', hz, hsize, hby⟩ := info_parts hi
 subst hsize
 subst hby
 have hle : n + m ≤ (n + m) * i.bytes := Nat.le_mul_of_pos_right _ hb1
 have hl : news.length = m * i.size := hc.1
 obtain ⟨hnone, hnews⟩ := Cells.news hc
 cases ao with
 | none =>
  obtain ⟨rfl, rfl⟩ := hnone rfl
  obtain rfl : news = [] := List.eq_nil_of_length_eq_zero (by simpa using hl)
  refine wpList_append_own_none hgd s x t ho base e i i.size ht hi' _ n xs hs hown hx (h _ w ?_ ?_)
  ·
   rw [List.append_nil]; exact hown
  ·
   exact ⟨rfl, rfl, rfl, Nat.le_refl _, fun k _ _ => rfl⟩
 | some ad =>
  exact wpList_append_own _ hgd s x t ho base e i z i.size i.bytes ht hi' hz rfl rfl hzs hsz v n xs hs hown ad m c news hx hl (hnews ad rfl) h1 (by unfold maxLen; omega) hbytes hbase fun v' w' r1 r2 _ => h v' w' r1 r2
set_option maxHeartbeats 6400000 in
set_option maxRecDepth 100000 in
theorem rising_any (A B : List Dot) (aa ab : Option Addr) (na ca nb cb : Nat) (w : World) (ha : Dots w w.heap.size (.slice aa na ca) A) (hb : Dots w w.heap.size (.slice ab nb cb) B) (hA : UpD A) (hB : UpD B) (hlA : A.length ≤ 100000) (hlB : B.length ≤ 100000) :
  Calls Tryz.prog 46 #[.slice aa na ca, .slice ab nb cb] w fun e w' => ∃ a n c R, e = .returned (.slice a n c) ∧ n = R.length ∧ DotO w.heap.size w' (.slice a n c) R ∧ UpD R ∧ (∀ d, d ∈ R ↔ d ∈ A ∨ d ∈ B) ∧ R.length ≤ 200000 ∧ Below w.heap.size w w' := by
 have HA := Lib.hid ha
 have HB := Lib.hid hb
 have HI0 := Lib.hid (rinv_start hA hB)
 have HLS : Hid (∀ (x y : Dot) (W : World), Calls Tryz.prog 66 #[.agg #[.int .i64 x.1, .int .i64 x.2], .agg #[.int .i64 y.1, .int .i64 y.2]] W (SaidD (dless x y) W)) := fun x y W => less_any x y W
 clear ha hb hA hB
 go_enter Tryz.func46, Tryz.ntmps46
 go_wp2
 go_loopw [0, 1, 5] (fun p q o wr => ∃ (a1 b1 o1 : Option Addr) (n1 c1 n2 c2 n3 c3 : Nat) (A' B' O : List Dot), p = .slice a1 n1 c1 ∧ q = .slice b1 n2 c2 ∧ o = .slice o1 n3 c3 ∧ Hid (Dots w w.heap.size (.slice a1 n1 c1) A') ∧ Hid (Dots w w.heap.size (.slice b1 n2 c2) B') ∧ n1 = A'.length ∧ n2 = B'.length ∧ n3 = O.length ∧ n1 + n2 + n3 ≤ 200000 ∧ Hid (DotO w.heap.size wr (.slice o1 n3 c3) O) ∧ Hid (RInv A B A' B' O) ∧ Hid (Below w.heap.size w wr)) (fun p q _ _ => match p, q with | .slice _ n1 _, .slice _ n2 _ => n1 + n2 | _, _ => 0)
 case atStart => exact ⟨_, _, none, _, _, _, _, 0, 0, A, B, [], rfl, rfl, rfl, HA, HB, HA.out.len, HB.out.len, rfl, by have := HA.out.len; have := HB.out.len; omega, World.ownsRow_nil _ _ _ _, HI0, Below.refl _ _⟩
 case round =>
  obtain ⟨a1, b1, o1, n1, c1, n2, c2, n3, c3, A', B', O, rfl, rfl, rfl, HDA, HDB, e1, e2, e3, h200, HO, HI, HBW⟩ := hrel
  have E1 := Lib.hid e1
  have E2 := Lib.hid e2
  have E3 := Lib.hid e3
  clear e1 e2 e3
  by_cases h1 : 0 < n1
  ·
   by_cases h2 : 0 < n2
   ·
    obtain ⟨xa, xb, A2, ba, oa, rfl, rfl, hba, hn1, hc1, k0, k1, qa, hqa, hdA⟩ := Dots.cons HDA.out h1
    obtain ⟨ya, yb, B2, bb, ob, rfl, rfl, hbb, hn2, hc2, m0, m1, qb, hqb, hdB⟩ := Dots.cons HDB.out h2
    have hz : w.heap.size ≤ wr.heap.size := HBW.out.size
    have h1I : (0 : Int) < (n1 : Int) := by omega
    have h2I : (0 : Int) < (n2 : Int) := by omega
    replace hn1 := Lib.hid hn1
    replace hn2 := Lib.hid hn2
    have K0 := Lib.hid k0
    have K1 := Lib.hid k1
    have M0 := Lib.hid m0
    have M1 := Lib.hid m1
    have HAT := Lib.hid hdA
    have HBT := Lib.hid hdB
    have HLC := Lib.hid (HLS.out (xa, xb) (ya, yb))
    have hn1' : 1 ≤ n1 := h1
    have hn2' : 1 ≤ n2 := h2
    have hc1' : 1 ≤ c1 := by omega
    have hc2' : 1 ≤ c2 := by omega
    have hc1i : (1 : Int) ≤ (c1 : Int) := by omega
    have hc2i : (1 : Int) ≤ (c2 : Int) := by omega
    have hn1i : (1 : Int) ≤ (n1 : Int) := by omega
    have hn2i : (1 : Int) ≤ (n2 : Int) := by omega
    clear k0 k1 m0 m1 hdA hdB
    go_wp2_with fail
    by_cases e1 : xa = ya
    ·
     subst e1
     by_cases e2 : xb = yb
     ·
      subst e2
      have HI6 := Lib.hid (rinv_both HI.out)
      clear HI
      refine wp_flow 7 (fun _ => 1000) (fun ww => RowKit.Below wr.heap.size wr ww) (fun _ w w' => (fun (w w' : World) => RowKit.Below w.heap.size w w') w w') (fun kF vF wF => match kF with | 0 => (vF = .slice (some ⟨ba, oa, none⟩) n1 c1) | 1 => (vF = .pointer (some ⟨ba, oa, none⟩)) | 2 => (vF = .agg #[.int .i64 xa, .int .i64 xb]) | 3 => (vF = .slice (some ⟨bb, ob, none⟩) n2 c2) | 4 => (vF = .pointer (some ⟨bb, ob, none⟩)) | 5 => (vF = .agg #[.int .i64 xa, .int .i64 xb]) | 6 => (vF = .bool true) | _ => True) (fun _ _ _ _ => True) (by kernel_rfl) (by kernel_rfl) ?_ ?_ ?_ ?_ ?_
      ·
       exact (Below.refl _ _).drew
      ·
       intro iF wF1 wF2 hR hT; exact hR.trans (hT.mono hR.size)
      ·
       intro kF hkF iF hiF hne hdd hanc hdan vF wF1 wF2 h hT
       rcases (by omega : kF = 0 ∨ kF = 1 ∨ kF = 2 ∨ kF = 3 ∨ kF = 4 ∨ kF = 5 ∨ kF = 6) with rfl | rfl | rfl | rfl | rfl | rfl | rfl
       iterate 7 exact h
      ·
       generalize hAF : fillOf _ _ _ = AF
       replace hAF := fun x => congrFun hAF x
       simp only [take_succ_cons, take_zero, fillOf, Act.put, setIfInBounds_toArray, set_cons_zero, set_cons_succ, Nat.reduceAdd, Nat.zero_add] at hAF
       refine .cons ?_ (.cons ?_ (.cons ?_ (.cons ?_ (.cons ?_ (.cons ?_ (.cons ?_ (.nil)))))))
       all_goals
        intro xF w5 hR hd K hK
        first | simp only [← hAF, Act.put, setIfInBounds_toArray, set_cons_zero, set_cons_succ] at hK ⊢ | simp only [← hAF, Act.put] at hK ⊢
        clear hAF
        try simp only [Nat.zero_add, Nat.reduceAdd] at hK ⊢
       ·
        clear hd
        rw [if_pos (by rfl)]
        go_simp
        exact hK.out _ _ (Below.refl _ _) (rfl) (fun _ _ _ => ⟨trivial, trivial⟩)
       ·
        have dd0 := hd 0 (by kernel_rfl)
        clear hd
        try generalize xF 0 = yy0 at *
        obtain rfl := dd0
        rw [if_pos (by rfl)]
        go_simp
        exact hK.out _ _ (Below.refl _ _) (rfl) (fun _ _ _ => ⟨trivial, trivial⟩)
       ·
        have dd1 := hd 1 (by kernel_rfl)
        clear hd
        try generalize xF 1 = yy1 at *
        obtain rfl := dd1
        have hR0 := HBW.out.trans (hR.mono HBW.out.size)
        have k0 := (hR0.cell (p := ⟨ba, oa, none⟩) hba).trans K0.out
        have k1 := (hR0.cell (p := ⟨ba, oa + 1, none⟩) hba).trans K1.out
        rw [if_pos (by rfl)]
        go_simp
        exact hK.out _ _ (Below.refl _ _) (rfl) (fun _ _ _ => ⟨trivial, trivial⟩)
       ·
        clear hd
        rw [if_pos (by rfl)]
        go_simp
        exact hK.out _ _ (Below.refl _ _) (rfl) (fun _ _ _ => ⟨trivial, trivial⟩)
       ·
        have dd3 := hd 3 (by kernel_rfl)
        clear hd
        try generalize xF 3 = yy3 at *
        obtain rfl := dd3
        rw [if_pos (by rfl)]
        go_simp
        exact hK.out _ _ (Below.refl _ _) (rfl) (fun _ _ _ => ⟨trivial, trivial⟩)
       ·
        have dd4 := hd 4 (by kernel_rfl)
        clear hd
        try generalize xF 4 = yy4 at *
        obtain rfl := dd4
        have hR0 := HBW.out.trans (hR.mono HBW.out.size)
        have m0 := (hR0.cell (p := ⟨bb, ob, none⟩) hbb).trans M0.out
        have m1 := (hR0.cell (p := ⟨bb, ob + 1, none⟩) hbb).trans M1.out
        rw [if_pos (by rfl)]
        go_simp
        exact hK.out _ _ (Below.refl _ _) (rfl) (fun _ _ _ => ⟨trivial, trivial⟩)
       ·
        have dd2 := hd 2 (by kernel_rfl)
        have dd5 := hd 5 (by kernel_rfl)
        clear hd
        try generalize xF 2 = yy2 at *
        try generalize xF 5 = yy5 at *
        obtain rfl := dd2
        obtain rfl := dd5
        rw [if_pos (by rfl)]
        go_simp
        exact hK.out _ _ (Below.refl _ _) (rfl) (fun _ _ _ => ⟨trivial, trivial⟩)
      intro xF w5 hR hF hP
      clear hP
      have dd0 := hF 0 (by omega) (by decide)
      have dd1 := hF 1 (by omega) (by decide)
      have dd2 := hF 2 (by omega) (by decide)
      have dd3 := hF 3 (by omega) (by decide)
      have dd4 := hF 4 (by omega) (by decide)
      have dd5 := hF 5 (by omega) (by decide)
      have dd6 := hF 6 (by omega) (by decide)
      clear hF
      simp only [take_succ_cons, take_zero, drop_succ_cons, drop_zero, fillOf, Act.put, setIfInBounds_toArray, set_cons_zero, set_cons_succ, Nat.reduceAdd, Nat.zero_add]
      try generalize xF 0 = yy0 at *
      try generalize xF 1 = yy1 at *
      try generalize xF 2 = yy2 at *
      try generalize xF 3 = yy3 at *
      try generalize xF 4 = yy4 at *
      try generalize xF 5 = yy5 at *
      try generalize xF 6 = yy6 at *
      clear xF
      obtain rfl := dd0
      obtain rfl := dd1
      obtain rfl := dd2
      obtain rfl := dd3
      obtain rfl := dd4
      obtain rfl := dd5
      obtain rfl := dd6
      have hRE := Lib.hid hR
      clear hR
      have HBX : Hid (Below w.heap.size w w5) := HBW.out.trans (hRE.out.mono HBW.out.size)
      have HOX : Hid (w5.ownsRow w.heap.size 51 2 (.slice o1 n3 c3) n3 (dcells O)) := by
       have h := HO.out.on hRE.out
       unfold DotO at h
       rw [← E3.out] at h
       exact h
      clear hRE
      have k0 := (HBX.out.cell (p := ⟨ba, oa, none⟩) hba).trans K0.out
      have k1 := (HBX.out.cell (p := ⟨ba, oa + 1, none⟩) hba).trans K1.out
      have m0 := (HBX.out.cell (p := ⟨bb, ob, none⟩) hbb).trans M0.out
      have m1 := (HBX.out.cell (p := ⟨bb, ob + 1, none⟩) hbb).trans M1.out
      have hzW : w.heap.size ≤ w5.heap.size := HBX.out.size
      go_wp2_with (at_builtin; refine app1g (.tmp 30) (.tmp 34) 23 rfl rfl w.heap.size Tryz.underlying23 infoDot rfl (by decide) (by decide) HOX.out rfl rfl rfl (by intro u hu; simp at hu; rcases hu with rfl | rfl <;> rfl) (by omega) hzW ?_)
      intro v' w6 hown hg6
      obtain ⟨o6, c6, rfl⟩ := own_slice hown
      have hbL : Below w5.heap.size w5 (w5.alloc (.cells #[.int .i64 xa, .int .i64 xb] 51)) := below1
      have HB6 : Hid (Below w.heap.size w w6) := (HBX.out.trans (hbL.mono HBX.out.size)).trans (grown_below (own_stay HOX.out hbL) (Nat.le_trans hzW hbL.size) hg6)
      have HO6 : Hid (DotO w.heap.size w6 (.slice o6 (n3 + 1) c6) (O ++ [(xa, xb)])) := by
       show World.ownsRow _ _ _ _ _ _ _
       rw [List.length_append, List.length_singleton, ← E3.out, dcells_app]
       exact hown
      clear hown hg6 hbL hzW
      clear k0 k1 m0 m1
      go_wp2_with fail
      go_quiet (fail)
      go_wp2
      go_roundw
      case rel => exact ⟨_, _, _, _, _, _, _, _, _, A2, B2, O ++ [(xa, xb)], rfl, rfl, rfl, HAT, HBT, HAT.out.len, HBT.out.len, by rw [List.length_append, ← E3.out]; rfl, by omega, HO6.out.on (below_drewND (Below.refl _ _) _), HI6, below_drewND HB6.out _⟩
      case measure => (have := hn1.out; have := hn2.out; simp; omega)
     ·
      have hne : (xa, xb) ≠ (xa, yb) := fun h => e2 (Prod.mk.inj h).2
      have en : (xb == yb) = false := by simpa using e2
      clear e2
      refine wp_flow 7 (fun _ => 1000) (fun ww => RowKit.Below wr.heap.size wr ww) (fun _ w w' => (fun (w w' : World) => RowKit.Below w.heap.size w w') w w') (fun kF vF wF => match kF with | 0 => (vF = .slice (some ⟨ba, oa, none⟩) n1 c1) | 1 => (vF = .pointer (some ⟨ba, oa, none⟩)) | 2 => (vF = .agg #[.int .i64 xa, .int .i64 xb]) | 3 => (vF = .slice (some ⟨bb, ob, none⟩) n2 c2) | 4 => (vF = .pointer (some ⟨bb, ob, none⟩)) | 5 => (vF = .agg #[.int .i64 xa, .int .i64 yb]) | 6 => (vF = .bool false) | _ => True) (fun _ _ _ _ => True) (by kernel_rfl) (by kernel_rfl) ?_ ?_ ?_ ?_ ?_
      ·
       exact (Below.refl _ _).drew
      ·
       intro iF wF1 wF2 hR hT; exact hR.trans (hT.mono hR.size)
      ·
       intro kF hkF iF hiF hne hdd hanc hdan vF wF1 wF2 h hT
       rcases (by omega : kF = 0 ∨ kF = 1 ∨ kF = 2 ∨ kF = 3 ∨ kF = 4 ∨ kF = 5 ∨ kF = 6) with rfl | rfl | rfl | rfl | rfl | rfl | rfl
       iterate 7 exact h
      ·
       generalize hAF : fillOf _ _ _ = AF
       replace hAF := fun x => congrFun hAF x
       simp only [take_succ_cons, take_zero, fillOf, Act.put, setIfInBounds_toArray, set_cons_zero, set_cons_succ, Nat.reduceAdd, Nat.zero_add] at hAF
       refine .cons ?_ (.cons ?_ (.cons ?_ (.cons ?_ (.cons ?_ (.cons ?_ (.cons ?_ (.nil)))))))
       all_goals
        intro xF w5 hR hd K hK
        first | simp only [← hAF, Act.put, setIfInBounds_toArray, set_cons_zero, set_cons_succ] at hK ⊢ | simp only [← hAF, Act.put] at hK ⊢
        clear hAF
        try simp only [Nat.zero_add, Nat.reduceAdd] at hK ⊢
       ·
        clear hd
        rw [if_pos (by rfl)]
        go_simp
        exact hK.out _ _ (Below.refl _ _) (rfl) (fun _ _ _ => ⟨trivial, trivial⟩)
       ·
        have dd0 := hd 0 (by kernel_rfl)
        clear hd
        try generalize xF 0 = yy0 at *
        obtain rfl := dd0
        rw [if_pos (by rfl)]
        go_simp
        exact hK.out _ _ (Below.refl _ _) (rfl) (fun _ _ _ => ⟨trivial, trivial⟩)
       ·
        have dd1 := hd 1 (by kernel_rfl)
        clear hd
        try generalize xF 1 = yy1 at *
        obtain rfl := dd1
        have hR0 := HBW.out.trans (hR.mono HBW.out.size)
        have k0 := (hR0.cell (p := ⟨ba, oa, none⟩) hba).trans K0.out
        have k1 := (hR0.cell (p := ⟨ba, oa + 1, none⟩) hba).trans K1.out
        rw [if_pos (by rfl)]
        go_simp
        exact hK.out _ _ (Below.refl _ _) (rfl) (fun _ _ _ => ⟨trivial, trivial⟩)
       ·
        clear hd
        rw [if_pos (by rfl)]
        go_simp
        exact hK.out _ _ (Below.refl _ _) (rfl) (fun _ _ _ => ⟨trivial, trivial⟩)
       ·
        have dd3 := hd 3 (by kernel_rfl)
        clear hd
        try generalize xF 3 = yy3 at *
        obtain rfl := dd3
        rw [if_pos (by rfl)]
        go_simp
        exact hK.out _ _ (Below.refl _ _) (rfl) (fun _ _ _ => ⟨trivial, trivial⟩)
       ·
        have dd4 := hd 4 (by kernel_rfl)
        clear hd
        try generalize xF 4 = yy4 at *
        obtain rfl := dd4
        have hR0 := HBW.out.trans (hR.mono HBW.out.size)
        have m0 := (hR0.cell (p := ⟨bb, ob, none⟩) hbb).trans M0.out
        have m1 := (hR0.cell (p := ⟨bb, ob + 1, none⟩) hbb).trans M1.out
        rw [if_pos (by rfl)]
        go_simp
        exact hK.out _ _ (Below.refl _ _) (rfl) (fun _ _ _ => ⟨trivial, trivial⟩)
       ·
        have dd2 := hd 2 (by kernel_rfl)
        have dd5 := hd 5 (by kernel_rfl)
        clear hd
        try generalize xF 2 = yy2 at *
        try generalize xF 5 = yy5 at *
        obtain rfl := dd2
        obtain rfl := dd5
        rw [if_pos (by rfl)]
        go_simp
        exact hK.out _ _ (Below.refl _ _) (rfl) (fun _ _ _ => ⟨trivial, trivial⟩)
      intro xF w5 hR hF hP
      clear hP
      have dd0 := hF 0 (by omega) (by decide)
      have dd1 := hF 1 (by omega) (by decide)
      have dd2 := hF 2 (by omega) (by decide)
      have dd3 := hF 3 (by omega) (by decide)
      have dd4 := hF 4 (by omega) (by decide)
      have dd5 := hF 5 (by omega) (by decide)
      have dd6 := hF 6 (by omega) (by decide)
      clear hF
      simp only [take_succ_cons, take_zero, drop_succ_cons, drop_zero, fillOf, Act.put, setIfInBounds_toArray, set_cons_zero, set_cons_succ, Nat.reduceAdd, Nat.zero_add]
      try generalize xF 0 = yy0 at *
      try generalize xF 1 = yy1 at *
      try generalize xF 2 = yy2 at *
      try generalize xF 3 = yy3 at *
      try generalize xF 4 = yy4 at *
      try generalize xF 5 = yy5 at *
      try generalize xF 6 = yy6 at *
      clear xF
      obtain rfl := dd0
      obtain rfl := dd1
      obtain rfl := dd2
      obtain rfl := dd3
      obtain rfl := dd4
      obtain rfl := dd5
      obtain rfl := dd6
      have hRE := Lib.hid hR
      clear hR
      have HBX : Hid (Below w.heap.size w w5) := HBW.out.trans (hRE.out.mono HBW.out.size)
      have HOX : Hid (w5.ownsRow w.heap.size 51 2 (.slice o1 n3 c3) n3 (dcells O)) := by
       have h := HO.out.on hRE.out
       unfold DotO at h
       rw [← E3.out] at h
       exact h
      clear hRE en
      go_wp2_with fail
      cases hls : dless (xa, xb) (xa, yb)
      ·
       have hls2 : dless (xa, yb) (xa, xb) = true := dless_tri (by rw [hls]; decide) hne
       have HI6 := Lib.hid (rinv_right HI.out hls2)
       rw [hls] at HLC
       clear HI hls hls2
       refine wp_flow 7 (fun _ => 1000) (fun ww => RowKit.Below w5.heap.size w5 ww) (fun _ w w' => (fun (w w' : World) => RowKit.Below w.heap.size w w') w w') (fun kF vF wF => match kF with | 0 => (vF = .slice (some ⟨ba, oa, none⟩) n1 c1) | 1 => (vF = .pointer (some ⟨ba, oa, none⟩)) | 2 => (vF = .agg #[.int .i64 xa, .int .i64 xb]) | 3 => (vF = .slice (some ⟨bb, ob, none⟩) n2 c2) | 4 => (vF = .pointer (some ⟨bb, ob, none⟩)) | 5 => (vF = .agg #[.int .i64 xa, .int .i64 yb]) | 6 => (vF = .bool false) | _ => True) (fun _ _ _ _ => True) (by kernel_rfl) (by kernel_rfl) ?_ ?_ ?_ ?_ ?_
       ·
        exact (Below.refl _ _).drew
       ·
        intro iF wF1 wF2 hR hT; exact hR.trans (hT.mono hR.size)
       ·
        intro kF hkF iF hiF hne hdd hanc hdan vF wF1 wF2 h hT
        rcases (by omega : kF = 0 ∨ kF = 1 ∨ kF = 2 ∨ kF = 3 ∨ kF = 4 ∨ kF = 5 ∨ kF = 6) with rfl | rfl | rfl | rfl | rfl | rfl | rfl
        iterate 7 exact h
       ·
        generalize hAF : fillOf _ _ _ = AF
        replace hAF := fun x => congrFun hAF x
        simp only [take_succ_cons, take_zero, fillOf, Act.put, setIfInBounds_toArray, set_cons_zero, set_cons_succ, Nat.reduceAdd, Nat.zero_add] at hAF
        refine .cons ?_ (.cons ?_ (.cons ?_ (.cons ?_ (.cons ?_ (.cons ?_ (.cons ?_ (.nil)))))))
        all_goals
         intro xF w8 hR hd K hK
         first | simp only [← hAF, Act.put, setIfInBounds_toArray, set_cons_zero, set_cons_succ] at hK ⊢ | simp only [← hAF, Act.put] at hK ⊢
         clear hAF
         try simp only [Nat.zero_add, Nat.reduceAdd] at hK ⊢
        ·
         clear hd
         rw [if_pos (by rfl)]
         go_simp
         exact hK.out _ _ (Below.refl _ _) (rfl) (fun _ _ _ => ⟨trivial, trivial⟩)
        ·
         have dd0 := hd 0 (by kernel_rfl)
         clear hd
         try generalize xF 0 = yy0 at *
         obtain rfl := dd0
         rw [if_pos (by rfl)]
         go_simp
         exact hK.out _ _ (Below.refl _ _) (rfl) (fun _ _ _ => ⟨trivial, trivial⟩)
        ·
         have dd1 := hd 1 (by kernel_rfl)
         clear hd
         try generalize xF 1 = yy1 at *
         obtain rfl := dd1
         have hR0 := HBX.out.trans (hR.mono HBX.out.size)
         have k0 := (hR0.cell (p := ⟨ba, oa, none⟩) hba).trans K0.out
         have k1 := (hR0.cell (p := ⟨ba, oa + 1, none⟩) hba).trans K1.out
         rw [if_pos (by rfl)]
         go_simp
         exact hK.out _ _ (Below.refl _ _) (rfl) (fun _ _ _ => ⟨trivial, trivial⟩)
        ·
         clear hd
         rw [if_pos (by rfl)]
         go_simp
         exact hK.out _ _ (Below.refl _ _) (rfl) (fun _ _ _ => ⟨trivial, trivial⟩)
        ·
         have dd3 := hd 3 (by kernel_rfl)
         clear hd
         try generalize xF 3 = yy3 at *
         obtain rfl := dd3
         rw [if_pos (by rfl)]
         go_simp
         exact hK.out _ _ (Below.refl _ _) (rfl) (fun _ _ _ => ⟨trivial, trivial⟩)
        ·
         have dd4 := hd 4 (by kernel_rfl)
         clear hd
         try generalize xF 4 = yy4 at *
         obtain rfl := dd4
         have hR0 := HBX.out.trans (hR.mono HBX.out.size)
         have m0 := (hR0.cell (p := ⟨bb, ob, none⟩) hbb).trans M0.out
         have m1 := (hR0.cell (p := ⟨bb, ob + 1, none⟩) hbb).trans M1.out
         rw [if_pos (by rfl)]
         go_simp
         exact hK.out _ _ (Below.refl _ _) (rfl) (fun _ _ _ => ⟨trivial, trivial⟩)
        ·
         have dd2 := hd 2 (by kernel_rfl)
         have dd5 := hd 5 (by kernel_rfl)
         clear hd
         try generalize xF 2 = yy2 at *
         try generalize xF 5 = yy5 at *
         obtain rfl := dd2
         obtain rfl := dd5
         rw [if_pos (by rfl)]
         go_simp
         (go_at_call 66; (with_reducible refine (HLC.out _).mono ?_); rintro e wK ⟨rfl, hbK⟩)
         try go_wp2_with fail
         exact hK.out _ _ (hbK) (rfl) (fun _ _ _ => ⟨trivial, trivial⟩)
       intro xF w8 hR hF hP
       clear hP
       have dd0 := hF 0 (by omega) (by decide)
       have dd1 := hF 1 (by omega) (by decide)
       have dd2 := hF 2 (by omega) (by decide)
       have dd3 := hF 3 (by omega) (by decide)
       have dd4 := hF 4 (by omega) (by decide)
       have dd5 := hF 5 (by omega) (by decide)
       have dd6 := hF 6 (by omega) (by decide)
       clear hF
       simp only [take_succ_cons, take_zero, drop_succ_cons, drop_zero, fillOf, Act.put, setIfInBounds_toArray, set_cons_zero, set_cons_succ, Nat.reduceAdd, Nat.zero_add]
       try generalize xF 0 = yy0 at *
       try generalize xF 1 = yy1 at *
       try generalize xF 2 = yy2 at *
       try generalize xF 3 = yy3 at *
       try generalize xF 4 = yy4 at *
       try generalize xF 5 = yy5 at *
       try generalize xF 6 = yy6 at *
       clear xF
       obtain rfl := dd0
       obtain rfl := dd1
       obtain rfl := dd2
       obtain rfl := dd3
       obtain rfl := dd4
       obtain rfl := dd5
       obtain rfl := dd6
       have hRE := Lib.hid hR
       clear hR
       have HBX8 : Hid (Below w.heap.size w w8) := HBX.out.trans (hRE.out.mono HBX.out.size)
       have HOX8 := Lib.hid (own_stay HOX.out hRE.out)
       clear HBX HOX hRE
       have HBX := HBX8
       have HOX := HOX8
       clear HBX8 HOX8
       have k0 := (HBX.out.cell (p := ⟨ba, oa, none⟩) hba).trans K0.out
       have k1 := (HBX.out.cell (p := ⟨ba, oa + 1, none⟩) hba).trans K1.out
       have m0 := (HBX.out.cell (p := ⟨bb, ob, none⟩) hbb).trans M0.out
       have m1 := (HBX.out.cell (p := ⟨bb, ob + 1, none⟩) hbb).trans M1.out
       have hzW : w.heap.size ≤ w8.heap.size := HBX.out.size
       go_wp2_with (at_builtin; refine app1g (.tmp 14) (.tmp 18) 23 rfl rfl w.heap.size Tryz.underlying23 infoDot rfl (by decide) (by decide) HOX.out rfl rfl rfl (by intro u hu; simp at hu; rcases hu with rfl | rfl <;> rfl) (by omega) hzW ?_)
       intro v' w6 hown hg6
       obtain ⟨o6, c6, rfl⟩ := own_slice hown
       have hbL : Below w8.heap.size w8 (w8.alloc (.cells #[.int .i64 xa, .int .i64 yb] 51)) := below1
       have HB6 : Hid (Below w.heap.size w w6) := (HBX.out.trans (hbL.mono HBX.out.size)).trans (grown_below (own_stay HOX.out hbL) (Nat.le_trans hzW hbL.size) hg6)
       have HO6 : Hid (DotO w.heap.size w6 (.slice o6 (n3 + 1) c6) (O ++ [(xa, yb)])) := by
        show World.ownsRow _ _ _ _ _ _ _
        rw [List.length_append, List.length_singleton, ← E3.out, dcells_app]
        exact hown
       clear hown hg6 hbL hzW
       clear k0 k1 m0 m1
       go_wp2_with fail
       go_roundw
       case rel => exact ⟨_, _, _, _, _, _, _, _, _, (xa, xb) :: A2, B2, O ++ [(xa, yb)], rfl, rfl, rfl, HDA, HBT, E1.out, HBT.out.len, by rw [List.length_append, ← E3.out]; rfl, by omega, HO6, HI6, HB6⟩
       case measure => (have := hn1.out; have := hn2.out; simp; omega)
      ·
       have HI6 := Lib.hid (rinv_left HI.out hls)
       rw [hls] at HLC
       clear HI hls
       refine wp_flow 7 (fun _ => 1000) (fun ww => RowKit.Below w5.heap.size w5 ww) (fun _ w w' => (fun (w w' : World) => RowKit.Below w.heap.size w w') w w') (fun kF vF wF => match kF with | 0 => (vF = .slice (some ⟨ba, oa, none⟩) n1 c1) | 1 => (vF = .pointer (some ⟨ba, oa, none⟩)) | 2 => (vF = .agg #[.int .i64 xa, .int .i64 xb]) | 3 => (vF = .slice (some ⟨bb, ob, none⟩) n2 c2) | 4 => (vF = .pointer (some ⟨bb, ob, none⟩)) | 5 => (vF = .agg #[.int .i64 xa, .int .i64 yb]) | 6 => (vF = .bool true) | _ => True) (fun _ _ _ _ => True) (by kernel_rfl) (by kernel_rfl) ?_ ?_ ?_ ?_ ?_
       ·
        exact (Below.refl _ _).drew
       ·
        intro iF wF1 wF2 hR hT; exact hR.trans (hT.mono hR.size)
       ·
        intro kF hkF iF hiF hne hdd hanc hdan vF wF1 wF2 h hT
        rcases (by omega : kF = 0 ∨ kF = 1 ∨ kF = 2 ∨ kF = 3 ∨ kF = 4 ∨ kF = 5 ∨ kF = 6) with rfl | rfl | rfl | rfl | rfl | rfl | rfl
        iterate 7 exact h
       ·
        generalize hAF : fillOf _ _ _ = AF
        replace hAF := fun x => congrFun hAF x
        simp only [take_succ_cons, take_zero, fillOf, Act.put, setIfInBounds_toArray, set_cons_zero, set_cons_succ, Nat.reduceAdd, Nat.zero_add] at hAF
        refine .cons ?_ (.cons ?_ (.cons ?_ (.cons ?_ (.cons ?_ (.cons ?_ (.cons ?_ (.nil)))))))
        all_goals
         intro xF w8 hR hd K hK
         first | simp only [← hAF, Act.put, setIfInBounds_toArray, set_cons_zero, set_cons_succ] at hK ⊢ | simp only [← hAF, Act.put] at hK ⊢
         clear hAF
         try simp only [Nat.zero_add, Nat.reduceAdd] at hK ⊢
        ·
         clear hd
         rw [if_pos (by rfl)]
         go_simp
         exact hK.out _ _ (Below.refl _ _) (rfl) (fun _ _ _ => ⟨trivial, trivial⟩)
        ·
         have dd0 := hd 0 (by kernel_rfl)
         clear hd
         try generalize xF 0 = yy0 at *
         obtain rfl := dd0
         rw [if_pos (by rfl)]
         go_simp
         exact hK.out _ _ (Below.refl _ _) (rfl) (fun _ _ _ => ⟨trivial, trivial⟩)
        ·
         have dd1 := hd 1 (by kernel_rfl)
         clear hd
         try generalize xF 1 = yy1 at *
         obtain rfl := dd1
         have hR0 := HBX.out.trans (hR.mono HBX.out.size)
         have k0 := (hR0.cell (p := ⟨ba, oa, none⟩) hba).trans K0.out
         have k1 := (hR0.cell (p := ⟨ba, oa + 1, none⟩) hba).trans K1.out
         rw [if_pos (by rfl)]
         go_simp
         exact hK.out _ _ (Below.refl _ _) (rfl) (fun _ _ _ => ⟨trivial, trivial⟩)
        ·
         clear hd
         rw [if_pos (by rfl)]
         go_simp
         exact hK.out _ _ (Below.refl _ _) (rfl) (fun _ _ _ => ⟨trivial, trivial⟩)
        ·
         have dd3 := hd 3 (by kernel_rfl)
         clear hd
         try generalize xF 3 = yy3 at *
         obtain rfl := dd3
         rw [if_pos (by rfl)]
         go_simp
         exact hK.out _ _ (Below.refl _ _) (rfl) (fun _ _ _ => ⟨trivial, trivial⟩)
        ·
         have dd4 := hd 4 (by kernel_rfl)
         clear hd
         try generalize xF 4 = yy4 at *
         obtain rfl := dd4
         have hR0 := HBX.out.trans (hR.mono HBX.out.size)
         have m0 := (hR0.cell (p := ⟨bb, ob, none⟩) hbb).trans M0.out
         have m1 := (hR0.cell (p := ⟨bb, ob + 1, none⟩) hbb).trans M1.out
         rw [if_pos (by rfl)]
         go_simp
         exact hK.out _ _ (Below.refl _ _) (rfl) (fun _ _ _ => ⟨trivial, trivial⟩)
        ·
         have dd2 := hd 2 (by kernel_rfl)
         have dd5 := hd 5 (by kernel_rfl)
         clear hd
         try generalize xF 2 = yy2 at *
         try generalize xF 5 = yy5 at *
         obtain rfl := dd2
         obtain rfl := dd5
         rw [if_pos (by rfl)]
         go_simp
         (go_at_call 66; (with_reducible refine (HLC.out _).mono ?_); rintro e wK ⟨rfl, hbK⟩)
         try go_wp2_with fail
         exact hK.out _ _ (hbK) (rfl) (fun _ _ _ => ⟨trivial, trivial⟩)
       intro xF w8 hR hF hP
       clear hP
       have dd0 := hF 0 (by omega) (by decide)
       have dd1 := hF 1 (by omega) (by decide)
       have dd2 := hF 2 (by omega) (by decide)
       have dd3 := hF 3 (by omega) (by decide)
       have dd4 := hF 4 (by omega) (by decide)
       have dd5 := hF 5 (by omega) (by decide)
       have dd6 := hF 6 (by omega) (by decide)
       clear hF
       simp only [take_succ_cons, take_zero, drop_succ_cons, drop_zero, fillOf, Act.put, setIfInBounds_toArray, set_cons_zero, set_cons_succ, Nat.reduceAdd, Nat.zero_add]
       try generalize xF 0 = yy0 at *
       try generalize xF 1 = yy1 at *
       try generalize xF 2 = yy2 at *
       try generalize xF 3 = yy3 at *
       try generalize xF 4 = yy4 at *
       try generalize xF 5 = yy5 at *
       try generalize xF 6 = yy6 at *
       clear xF
       obtain rfl := dd0
       obtain rfl := dd1
       obtain rfl := dd2
       obtain rfl := dd3
       obtain rfl := dd4
       obtain rfl := dd5
       obtain rfl := dd6
       have hRE := Lib.hid hR
       clear hR
       have HBX8 : Hid (Below w.heap.size w w8) := HBX.out.trans (hRE.out.mono HBX.out.size)
       have HOX8 := Lib.hid (own_stay HOX.out hRE.out)
       clear HBX HOX hRE
       have HBX := HBX8
       have HOX := HOX8
       clear HBX8 HOX8
       have k0 := (HBX.out.cell (p := ⟨ba, oa, none⟩) hba).trans K0.out
       have k1 := (HBX.out.cell (p := ⟨ba, oa + 1, none⟩) hba).trans K1.out
       have m0 := (HBX.out.cell (p := ⟨bb, ob, none⟩) hbb).trans M0.out
       have m1 := (HBX.out.cell (p := ⟨bb, ob + 1, none⟩) hbb).trans M1.out
       have hzW : w.heap.size ≤ w8.heap.size := HBX.out.size
       go_wp2_with (at_builtin; refine app1g (.tmp 48) (.tmp 52) 23 rfl rfl w.heap.size Tryz.underlying23 infoDot rfl (by decide) (by decide) HOX.out rfl rfl rfl (by intro u hu; simp at hu; rcases hu with rfl | rfl <;> rfl) (by omega) hzW ?_)
       intro v' w6 hown hg6
       obtain ⟨o6, c6, rfl⟩ := own_slice hown
       have hbL : Below w8.heap.size w8 (w8.alloc (.cells #[.int .i64 xa, .int .i64 xb] 51)) := below1
       have HB6 : Hid (Below w.heap.size w w6) := (HBX.out.trans (hbL.mono HBX.out.size)).trans (grown_below (own_stay HOX.out hbL) (Nat.le_trans hzW hbL.size) hg6)
       have HO6 : Hid (DotO w.heap.size w6 (.slice o6 (n3 + 1) c6) (O ++ [(xa, xb)])) := by
        show World.ownsRow _ _ _ _ _ _ _
        rw [List.length_append, List.length_singleton, ← E3.out, dcells_app]
        exact hown
       clear hown hg6 hbL hzW
       clear k0 k1 m0 m1
       go_wp2_with fail
       go_roundw
       case rel => exact ⟨_, _, _, _, _, _, _, _, _, A2, (xa, yb) :: B2, O ++ [(xa, xb)], rfl, rfl, rfl, HAT, HDB, HAT.out.len, E2.out, by rw [List.length_append, ← E3.out]; rfl, by omega, HO6, HI6, HB6⟩
       case measure => (have := hn1.out; have := hn2.out; simp; omega)
    ·
     have hne : (xa, xb) ≠ (ya, yb) := fun h => e1 (Prod.mk.inj h).1
     have en : (xa == ya) = false := by simpa using e1
     clear e1
     refine wp_flow 7 (fun _ => 1000) (fun ww => RowKit.Below wr.heap.size wr ww) (fun _ w w' => (fun (w w' : World) => RowKit.Below w.heap.size w w') w w') (fun kF vF wF => match kF with | 0 => (vF = .slice (some ⟨ba, oa, none⟩) n1 c1) | 1 => (vF = .pointer (some ⟨ba, oa, none⟩)) | 2 => (vF = .agg #[.int .i64 xa, .int .i64 xb]) | 3 => (vF = .slice (some ⟨bb, ob, none⟩) n2 c2) | 4 => (vF = .pointer (some ⟨bb, ob, none⟩)) | 5 => (vF = .agg #[.int .i64 ya, .int .i64 yb]) | 6 => (vF = .bool false) | _ => True) (fun _ _ _ _ => True) (by kernel_rfl) (by kernel_rfl) ?_ ?_ ?_ ?_ ?_
     ·
      exact (Below.refl _ _).drew
     ·
      intro iF wF1 wF2 hR hT; exact hR.trans (hT.mono hR.size)
     ·
      intro kF hkF iF hiF hne hdd hanc hdan vF wF1 wF2 h hT
      rcases (by omega : kF = 0 ∨ kF = 1 ∨ kF = 2 ∨ kF = 3 ∨ kF = 4 ∨ kF = 5 ∨ kF = 6) with rfl | rfl | rfl | rfl | rfl | rfl | rfl
      iterate 7 exact h
     ·
      generalize hAF : fillOf _ _ _ = AF
      replace hAF := fun x => congrFun hAF x
      simp only [take_succ_cons, take_zero, fillOf, Act.put, setIfInBounds_toArray, set_cons_zero, set_cons_succ, Nat.reduceAdd, Nat.zero_add] at hAF
      refine .cons ?_ (.cons ?_ (.cons ?_ (.cons ?_ (.cons ?_ (.cons ?_ (.cons ?_ (.nil)))))))
      all_goals
       intro xF w5 hR hd K hK
       first | simp only [← hAF, Act.put, setIfInBounds_toArray, set_cons_zero, set_cons_succ] at hK ⊢ | simp only [← hAF, Act.put] at hK ⊢
       clear hAF
       try simp only [Nat.zero_add, Nat.reduceAdd] at hK ⊢
      ·
       clear hd
       rw [if_pos (by rfl)]
       go_simp
       exact hK.out _ _ (Below.refl _ _) (rfl) (fun _ _ _ => ⟨trivial, trivial⟩)
      ·
       have dd0 := hd 0 (by kernel_rfl)
       clear hd
       try generalize xF 0 = yy0 at *
       obtain rfl := dd0
       rw [if_pos (by rfl)]
       go_simp
       exact hK.out _ _ (Below.refl _ _) (rfl) (fun _ _ _ => ⟨trivial, trivial⟩)
      ·
       have dd1 := hd 1 (by kernel_rfl)
       clear hd
       try generalize xF 1 = yy1 at *
       obtain rfl := dd1
       have hR0 := HBW.out.trans (hR.mono HBW.out.size)
       have k0 := (hR0.cell (p := ⟨ba, oa, none⟩) hba).trans K0.out
       have k1 := (hR0.cell (p := ⟨ba, oa + 1, none⟩) hba).trans K1.out
       rw [if_pos (by rfl)]
       go_simp
       exact hK.out _ _ (Below.refl _ _) (rfl) (fun _ _ _ => ⟨trivial, trivial⟩)
      ·
       clear hd
       rw [if_pos (by rfl)]
       go_simp
       exact hK.out _ _ (Below.refl _ _) (rfl) (fun _ _ _ => ⟨trivial, trivial⟩)
      ·
       have dd3 := hd 3 (by kernel_rfl)
       clear hd
       try generalize xF 3 = yy3 at *
       obtain rfl := dd3
       rw [if_pos (by rfl)]
       go_simp
       exact hK.out _ _ (Below.refl _ _) (rfl) (fun _ _ _ => ⟨trivial, trivial⟩)
      ·
       have dd4 := hd 4 (by kernel_rfl)
       clear hd
       try generalize xF 4 = yy4 at *
       obtain rfl := dd4
       have hR0 := HBW.out.trans (hR.mono HBW.out.size)
       have m0 := (hR0.cell (p := ⟨bb, ob, none⟩) hbb).trans M0.out
       have m1 := (hR0.cell (p := ⟨bb, ob + 1, none⟩) hbb).trans M1.out
       rw [if_pos (by rfl)]
       go_simp
       exact hK.out _ _ (Below.refl _ _) (rfl) (fun _ _ _ => ⟨trivial, trivial⟩)
      ·
       have dd2 := hd 2 (by kernel_rfl)
       have dd5 := hd 5 (by kernel_rfl)
       clear hd
       try generalize xF 2 = yy2 at *
       try generalize xF 5 = yy5 at *
       obtain rfl := dd2
       obtain rfl := dd5
       rw [if_pos (by rfl)]
       go_simp
       exact hK.out _ _ (Below.refl _ _) (rfl) (fun _ _ _ => ⟨trivial, trivial⟩)
     intro xF w5 hR hF hP
     clear hP
     have dd0 := hF 0 (by omega) (by decide)
     have dd1 := hF 1 (by omega) (by decide)
     have dd2 := hF 2 (by omega) (by decide)
     have dd3 := hF 3 (by omega) (by decide)
     have dd4 := hF 4 (by omega) (by decide)
     have dd5 := hF 5 (by omega) (by decide)
     have dd6 := hF 6 (by omega) (by decide)
     clear hF
     simp only [take_succ_cons, take_zero, drop_succ_cons, drop_zero, fillOf, Act.put, setIfInBounds_toArray, set_cons_zero, set_cons_succ, Nat.reduceAdd, Nat.zero_add]
     try generalize xF 0 = yy0 at *
     try generalize xF 1 = yy1 at *
     try generalize xF 2 = yy2 at *
     try generalize xF 3 = yy3 at *
     try generalize xF 4 = yy4 at *
     try generalize xF 5 = yy5 at *
     try generalize xF 6 = yy6 at *
     clear xF
     obtain rfl := dd0
     obtain rfl := dd1
     obtain rfl := dd2
     obtain rfl := dd3
     obtain rfl := dd4
     obtain rfl := dd5
     obtain rfl := dd6
     have hRE := Lib.hid hR
     clear hR
     have HBX : Hid (Below w.heap.size w w5) := HBW.out.trans (hRE.out.mono HBW.out.size)
     have HOX : Hid (w5.ownsRow w.heap.size 51 2 (.slice o1 n3 c3) n3 (dcells O)) := by
      have h := HO.out.on hRE.out
      unfold DotO at h
      rw [← E3.out] at h
      exact h
     clear hRE en
     go_wp2_with fail
     cases hls : dless (xa, xb) (ya, yb)
     ·
      have hls2 : dless (ya, yb) (xa, xb) = true := dless_tri (by rw [hls]; decide) hne
      have HI6 := Lib.hid (rinv_right HI.out hls2)
      rw [hls] at HLC
      clear HI hls hls2
      refine wp_flow 7 (fun _ => 1000) (fun ww => RowKit.Below w5.heap.size w5 ww) (fun _ w w' => (fun (w w' : World) => RowKit.Below w.heap.size w w') w w') (fun kF vF wF => match kF with | 0 => (vF = .slice (some ⟨ba, oa, none⟩) n1 c1) | 1 => (vF = .pointer (some ⟨ba, oa, none⟩)) | 2 => (vF = .agg #[.int .i64 xa, .int .i64 xb]) | 3 => (vF = .slice (some ⟨bb, ob, none⟩) n2 c2) | 4 => (vF = .pointer (some ⟨bb, ob, none⟩)) | 5 => (vF = .agg #[.int .i64 ya, .int .i64 yb]) | 6 => (vF = .bool false) | _ => True) (fun _ _ _ _ => True) (by kernel_rfl) (by kernel_rfl) ?_ ?_ ?_ ?_ ?_
      ·
       exact (Below.refl _ _).drew
      ·
       intro iF wF1 wF2 hR hT; exact hR.trans (hT.mono hR.size)
      ·
       intro kF hkF iF hiF hne hdd hanc hdan vF wF1 wF2 h hT
       rcases (by omega : kF = 0 ∨ kF = 1 ∨ kF = 2 ∨ kF = 3 ∨ kF = 4 ∨ kF = 5 ∨ kF = 6) with rfl | rfl | rfl | rfl | rfl | rfl | rfl
       iterate 7 exact h
      ·
       generalize hAF : fillOf _ _ _ = AF
       replace hAF := fun x => congrFun hAF x
       simp only [take_succ_cons, take_zero, fillOf, Act.put, setIfInBounds_toArray, set_cons_zero, set_cons_succ, Nat.reduceAdd, Nat.zero_add] at hAF
       refine .cons ?_ (.cons ?_ (.cons ?_ (.cons ?_ (.cons ?_ (.cons ?_ (.cons ?_ (.nil)))))))
       all_goals
        intro xF w8 hR hd K hK
        first | simp only [← hAF, Act.put, setIfInBounds_toArray, set_cons_zero, set_cons_succ] at hK ⊢ | simp only [← hAF, Act.put] at hK ⊢
        clear hAF
        try simp only [Nat.zero_add, Nat.reduceAdd] at hK ⊢
       ·
        clear hd
        rw [if_pos (by rfl)]
        go_simp
        exact hK.out _ _ (Below.refl _ _) (rfl) (fun _ _ _ => ⟨trivial, trivial⟩)
       ·
        have dd0 := hd 0 (by kernel_rfl)
        clear hd
        try generalize xF 0 = yy0 at *
        obtain rfl := dd0
        rw [if_pos (by rfl)]
        go_simp
        exact hK.out _ _ (Below.refl _ _) (rfl) (fun _ _ _ => ⟨trivial, trivial⟩)
       ·
        have dd1 := hd 1 (by kernel_rfl)
        clear hd
        try generalize xF 1 = yy1 at *
        obtain rfl := dd1
        have hR0 := HBX.out.trans (hR.mono HBX.out.size)
        have k0 := (hR0.cell (p := ⟨ba, oa, none⟩) hba).trans K0.out
        have k1 := (hR0.cell (p := ⟨ba, oa + 1, none⟩) hba).trans K1.out
        rw [if_pos (by rfl)]
        go_simp
        exact hK.out _ _ (Below.refl _ _) (rfl) (fun _ _ _ => ⟨trivial, trivial⟩)
       ·
        clear hd
        rw [if_pos (by rfl)]
        go_simp
        exact hK.out _ _ (Below.refl _ _) (rfl) (fun _ _ _ => ⟨trivial, trivial⟩)
       ·
        have dd3 := hd 3 (by kernel_rfl)
        clear hd
        try generalize xF 3 = yy3 at *
        obtain rfl := dd3
        rw [if_pos (by rfl)]
        go_simp
        exact hK.out _ _ (Below.refl _ _) (rfl) (fun _ _ _ => ⟨trivial, trivial⟩)
       ·
        have dd4 := hd 4 (by kernel_rfl)
        clear hd
        try generalize xF 4 = yy4 at *
        obtain rfl := dd4
        have hR0 := HBX.out.trans (hR.mono HBX.out.size)
        have m0 := (hR0.cell (p := ⟨bb, ob, none⟩) hbb).trans M0.out
        have m1 := (hR0.cell (p := ⟨bb, ob + 1, none⟩) hbb).trans M1.out
        rw [if_pos (by rfl)]
        go_simp
        exact hK.out _ _ (Below.refl _ _) (rfl) (fun _ _ _ => ⟨trivial, trivial⟩)
       ·
        have dd2 := hd 2 (by kernel_rfl)
        have dd5 := hd 5 (by kernel_rfl)
        clear hd
        try generalize xF 2 = yy2 at *
        try generalize xF 5 = yy5 at *
        obtain rfl := dd2
        obtain rfl := dd5
        rw [if_pos (by rfl)]
        go_simp
        (go_at_call 66; (with_reducible refine (HLC.out _).mono ?_); rintro e wK ⟨rfl, hbK⟩)
        try go_wp2_with fail
        exact hK.out _ _ (hbK) (rfl) (fun _ _ _ => ⟨trivial, trivial⟩)
      intro xF w8 hR hF hP
      clear hP
      have dd0 := hF 0 (by omega) (by decide)
      have dd1 := hF 1 (by omega) (by decide)
      have dd2 := hF 2 (by omega) (by decide)
      have dd3 := hF 3 (by omega) (by decide)
      have dd4 := hF 4 (by omega) (by decide)
      have dd5 := hF 5 (by omega) (by decide)
      have dd6 := hF 6 (by omega) (by decide)
      clear hF
      simp only [take_succ_cons, take_zero, drop_succ_cons, drop_zero, fillOf, Act.put, setIfInBounds_toArray, set_cons_zero, set_cons_succ, Nat.reduceAdd, Nat.zero_add]
      try generalize xF 0 = yy0 at *
      try generalize xF 1 = yy1 at *
      try generalize xF 2 = yy2 at *
      try generalize xF 3 = yy3 at *
      try generalize xF 4 = yy4 at *
      try generalize xF 5 = yy5 at *
      try generalize xF 6 = yy6 at *
      clear xF
      obtain rfl := dd0
      obtain rfl := dd1
      obtain rfl := dd2
      obtain rfl := dd3
      obtain rfl := dd4
      obtain rfl := dd5
      obtain rfl := dd6
      have hRE := Lib.hid hR
      clear hR
      have HBX8 : Hid (Below w.heap.size w w8) := HBX.out.trans (hRE.out.mono HBX.out.size)
      have HOX8 := Lib.hid (own_stay HOX.out hRE.out)
      clear HBX HOX hRE
      have HBX := HBX8
      have HOX := HOX8
      clear HBX8 HOX8
      have k0 := (HBX.out.cell (p := ⟨ba, oa, none⟩) hba).trans K0.out
      have k1 := (HBX.out.cell (p := ⟨ba, oa + 1, none⟩) hba).trans K1.out
      have m0 := (HBX.out.cell (p := ⟨bb, ob, none⟩) hbb).trans M0.out
      have m1 := (HBX.out.cell (p := ⟨bb, ob + 1, none⟩) hbb).trans M1.out
      have hzW : w.heap.size ≤ w8.heap.size := HBX.out.size
      go_wp2_with (at_builtin; refine app1g (.tmp 14) (.tmp 18) 23 rfl rfl w.heap.size Tryz.underlying23 infoDot rfl (by decide) (by decide) HOX.out rfl rfl rfl (by intro u hu; simp at hu; rcases hu with rfl | rfl <;> rfl) (by omega) hzW ?_)
      intro v' w6 hown hg6
      obtain ⟨o6, c6, rfl⟩ := own_slice hown
      have hbL : Below w8.heap.size w8 (w8.alloc (.cells #[.int .i64 ya, .int .i64 yb] 51)) := below1
      have HB6 : Hid (Below w.heap.size w w6) := (HBX.out.trans (hbL.mono HBX.out.size)).trans (grown_below (own_stay HOX.out hbL) (Nat.le_trans hzW hbL.size) hg6)
      have HO6 : Hid (DotO w.heap.size w6 (.slice o6 (n3 + 1) c6) (O ++ [(ya, yb)])) := by
       show World.ownsRow _ _ _ _ _ _ _
       rw [List.length_append, List.length_singleton, ← E3.out, dcells_app]
       exact hown
      clear hown hg6 hbL hzW
      clear k0 k1 m0 m1
      go_wp2_with fail
      go_roundw
      case rel => exact ⟨_, _, _, _, _, _, _, _, _, (xa, xb) :: A2, B2, O ++ [(ya, yb)], rfl, rfl, rfl, HDA, HBT, E1.out, HBT.out.len, by rw [List.length_append, ← E3.out]; rfl, by omega, HO6, HI6, HB6⟩
      case measure => (have := hn1.out; have := hn2.out; simp; omega)
     ·
      have HI6 := Lib.hid (rinv_left HI.out hls)
      rw [hls] at HLC
      clear HI hls
      refine wp_flow 7 (fun _ => 1000) (fun ww => RowKit.Below w5.heap.size w5 ww) (fun _ w w' => (fun (w w' : World) => RowKit.Below w.heap.size w w') w w') (fun kF vF wF => match kF with | 0 => (vF = .slice (some ⟨ba, oa, none⟩) n1 c1) | 1 => (vF = .pointer (some ⟨ba, oa, none⟩)) | 2 => (vF = .agg #[.int .i64 xa, .int .i64 xb]) | 3 => (vF = .slice (some ⟨bb, ob, none⟩) n2 c2) | 4 => (vF = .pointer (some ⟨bb, ob, none⟩)) | 5 => (vF = .agg #[.int .i64 ya, .int .i64 yb]) | 6 => (vF = .bool true) | _ => True) (fun _ _ _ _ => True) (by kernel_rfl) (by kernel_rfl) ?_ ?_ ?_ ?_ ?_
      ·
       exact (Below.refl _ _).drew
      ·
       intro iF wF1 wF2 hR hT; exact hR.trans (hT.mono hR.size)
      ·
       intro kF hkF iF hiF hne hdd hanc hdan vF wF1 wF2 h hT
       rcases (by omega : kF = 0 ∨ kF = 1 ∨ kF = 2 ∨ kF = 3 ∨ kF = 4 ∨ kF = 5 ∨ kF = 6) with rfl | rfl | rfl | rfl | rfl | rfl | rfl
       iterate 7 exact h
      ·
       generalize hAF : fillOf _ _ _ = AF
       replace hAF := fun x => congrFun hAF x
       simp only [take_succ_cons, take_zero, fillOf, Act.put, setIfInBounds_toArray, set_cons_zero, set_cons_succ, Nat.reduceAdd, Nat.zero_add] at hAF
       refine .cons ?_ (.cons ?_ (.cons ?_ (.cons ?_ (.cons ?_ (.cons ?_ (.cons ?_ (.nil)))))))
       all_goals
        intro xF w8 hR hd K hK
        first | simp only [← hAF, Act.put, setIfInBounds_toArray, set_cons_zero, set_cons_succ] at hK ⊢ | simp only [← hAF, Act.put] at hK ⊢
        clear hAF
        try simp only [Nat.zero_add, Nat.reduceAdd] at hK ⊢
       ·
        clear hd
        rw [if_pos (by rfl)]
        go_simp
        exact hK.out _ _ (Below.refl _ _) (rfl) (fun _ _ _ => ⟨trivial, trivial⟩)
       ·
        have dd0 := hd 0 (by kernel_rfl)
        clear hd
        try generalize xF 0 = yy0 at *
        obtain rfl := dd0
        rw [if_pos (by rfl)]
        go_simp
        exact hK.out _ _ (Below.refl _ _) (rfl) (fun _ _ _ => ⟨trivial, trivial⟩)
       ·
        have dd1 := hd 1 (by kernel_rfl)
        clear hd
        try generalize xF 1 = yy1 at *
        obtain rfl := dd1
        have hR0 := HBX.out.trans (hR.mono HBX.out.size)
        have k0 := (hR0.cell (p := ⟨ba, oa, none⟩) hba).trans K0.out
        have k1 := (hR0.cell (p := ⟨ba, oa + 1, none⟩) hba).trans K1.out
        rw [if_pos (by rfl)]
        go_simp
        exact hK.out _ _ (Below.refl _ _) (rfl) (fun _ _ _ => ⟨trivial, trivial⟩)
       ·
        clear hd
        rw [if_pos (by rfl)]
        go_simp
        exact hK.out _ _ (Below.refl _ _) (rfl) (fun _ _ _ => ⟨trivial, trivial⟩)
       ·
        have dd3 := hd 3 (by kernel_rfl)
        clear hd
        try generalize xF 3 = yy3 at *
        obtain rfl := dd3
        rw [if_pos (by rfl)]
        go_simp
        exact hK.out _ _ (Below.refl _ _) (rfl) (fun _ _ _ => ⟨trivial, trivial⟩)
       ·
        have dd4 := hd 4 (by kernel_rfl)
        clear hd
        try generalize xF 4 = yy4 at *
        obtain rfl := dd4
        have hR0 := HBX.out.trans (hR.mono HBX.out.size)
        have m0 := (hR0.cell (p := ⟨bb, ob, none⟩) hbb).trans M0.out
        have m1 := (hR0.cell (p := ⟨bb, ob + 1, none⟩) hbb).trans M1.out
        rw [if_pos (by rfl)]
        go_simp
        exact hK.out _ _ (Below.refl _ _) (rfl) (fun _ _ _ => ⟨trivial, trivial⟩)
       ·
        have dd2 := hd 2 (by kernel_rfl)
        have dd5 := hd 5 (by kernel_rfl)
        clear hd
        try generalize xF 2 = yy2 at *
        try generalize xF 5 = yy5 at *
        obtain rfl := dd2
        obtain rfl := dd5
        rw [if_pos (by rfl)]
        go_simp
        (go_at_call 66; (with_reducible refine (HLC.out _).mono ?_); rintro e wK ⟨rfl, hbK⟩)
        try go_wp2_with fail
        exact hK.out _ _ (hbK) (rfl) (fun _ _ _ => ⟨trivial, trivial⟩)
      intro xF w8 hR hF hP
      clear hP
      have dd0 := hF 0 (by omega) (by decide)
      have dd1 := hF 1 (by omega) (by decide)
      have dd2 := hF 2 (by omega) (by decide)
      have dd3 := hF 3 (by omega) (by decide)
      have dd4 := hF 4 (by omega) (by decide)
      have dd5 := hF 5 (by omega) (by decide)
      have dd6 := hF 6 (by omega) (by decide)
      clear hF
      simp only [take_succ_cons, take_zero, drop_succ_cons, drop_zero, fillOf, Act.put, setIfInBounds_toArray, set_cons_zero, set_cons_succ, Nat.reduceAdd, Nat.zero_add]
      try generalize xF 0 = yy0 at *
      try generalize xF 1 = yy1 at *
      try generalize xF 2 = yy2 at *
      try generalize xF 3 = yy3 at *
      try generalize xF 4 = yy4 at *
      try generalize xF 5 = yy5 at *
      try generalize xF 6 = yy6 at *
      clear xF
      obtain rfl := dd0
      obtain rfl := dd1
      obtain rfl := dd2
      obtain rfl := dd3
      obtain rfl := dd4
      obtain rfl := dd5
      obtain rfl := dd6
      have hRE := Lib.hid hR
      clear hR
      have HBX8 : Hid (Below w.heap.size w w8) := HBX.out.trans (hRE.out.mono HBX.out.size)
      have HOX8 := Lib.hid (own_stay HOX.out hRE.out)
      clear HBX HOX hRE
      have HBX := HBX8
      have HOX := HOX8
      clear HBX8 HOX8
      have k0 := (HBX.out.cell (p := ⟨ba, oa, none⟩) hba).trans K0.out
      have k1 := (HBX.out.cell (p := ⟨ba, oa + 1, none⟩) hba).trans K1.out
      have m0 := (HBX.out.cell (p := ⟨bb, ob, none⟩) hbb).trans M0.out
      have m1 := (HBX.out.cell (p := ⟨bb, ob + 1, none⟩) hbb).trans M1.out
      have hzW : w.heap.size ≤ w8.heap.size := HBX.out.size
      go_wp2_with (at_builtin; refine app1g (.tmp 48) (.tmp 52) 23 rfl rfl w.heap.size Tryz.underlying23 infoDot rfl (by decide) (by decide) HOX.out rfl rfl rfl (by intro u hu; simp at hu; rcases hu with rfl | rfl <;> rfl) (by omega) hzW ?_)
      intro v' w6 hown hg6
      obtain ⟨o6, c6, rfl⟩ := own_slice hown
      have hbL : Below w8.heap.size w8 (w8.alloc (.cells #[.int .i64 xa, .int .i64 xb] 51)) := below1
      have HB6 : Hid (Below w.heap.size w w6) := (HBX.out.trans (hbL.mono HBX.out.size)).trans (grown_below (own_stay HOX.out hbL) (Nat.le_trans hzW hbL.size) hg6)
      have HO6 : Hid (DotO w.heap.size w6 (.slice o6 (n3 + 1) c6) (O ++ [(xa, xb)])) := by
       show World.ownsRow _ _ _ _ _ _ _
       rw [List.length_append, List.length_singleton, ← E3.out, dcells_app]
       exact hown
      clear hown hg6 hbL hzW
      clear k0 k1 m0 m1
      go_wp2_with fail
      go_roundw
      case rel => exact ⟨_, _, _, _, _, _, _, _, _, A2, (ya, yb) :: B2, O ++ [(xa, xb)], rfl, rfl, rfl, HAT, HDB, HAT.out.len, E2.out, by rw [List.length_append, ← E3.out]; rfl, by omega, HO6, HI6, HB6⟩
      case measure => (have := hn1.out; have := hn2.out; simp; omega)
   ·
    have HZ : Hid (n2 = 0) := by show _ = _; omega
    have h2I : ¬ (0 : Int) < (n2 : Int) := by omega
    have HEN := Lib.hid (rinv_end HI.out (Or.inr (List.eq_nil_of_length_eq_zero (E2.out.symm.trans HZ.out))))
    have HOX : Hid (wr.ownsRow w.heap.size 51 2 (.slice o1 n3 c3) n3 (dcells O)) := by
     have h := HO.out
     unfold DotO at h
     rw [← E3.out] at h
     exact h
    have hz : w.heap.size ≤ wr.heap.size := HBW.out.size
    have HCA : Hid (Cells wr wr.heap.size (.slice a1 n1 c1) n1 2 (dcells A')) := by
     have h := Cells.next HDA.out HBW.out
     rw [← E1.out] at h
     exact h
    have h1I : (0 : Int) < (n1 : Int) := by omega
    go_wp2_with (at_builtin; refine appN (.tmp 56) (.tmp 57) 23 rfl rfl w.heap.size Tryz.underlying23 infoDot rfl (by decide) (by decide) HOX.out rfl rfl HCA.out dcells_one (by omega) hz ?_)
    intro v' w6 hown hg6
    obtain ⟨o6, c6, rfl⟩ := own_slice hown
    have HB6 : Hid (Below w.heap.size w w6) := HBW.out.trans (grown_below HOX.out hz hg6)
    have HO6 := Lib.hid hown
    have hz6 : w.heap.size ≤ w6.heap.size := HB6.out.size
    have HCB : Hid (Cells w6 w6.heap.size (.slice b1 n2 c2) n2 2 (dcells B')) := by
     have h := Cells.next HDB.out HB6.out
     rw [← E2.out] at h
     exact h
    clear hown hg6
    go_wp2_with (at_builtin; refine appN (.tmp 58) (.tmp 59) 23 rfl rfl w.heap.size Tryz.underlying23 infoDot rfl (by decide) (by decide) HO6.out rfl rfl HCB.out dcells_one (by omega) hz6 ?_)
    intro v' w7 hown hg7
    obtain ⟨o7, c7, rfl⟩ := own_slice hown
    have HB7 : Hid (Below w.heap.size w w7) := HB6.out.trans (grown_below HO6.out hz6 hg7)
    have hlen : n3 + n1 + n2 = (O ++ A' ++ B').length := by rw [List.length_append, List.length_append, E1.out, E2.out, E3.out]
    have HO7 : Hid (DotO w.heap.size w7 (.slice o7 (n3 + n1 + n2) c7) (O ++ A' ++ B')) := by
     show World.ownsRow _ _ _ _ _ _ _
     rw [← hlen, dcells_app, dcells_app, List.append_assoc]
     exact hown
    have HLE := Lib.hid hlen
    clear hown hg7 hlen
    go_wp2
    go_ret
    exact ⟨_, _, _, _, rfl, HLE.out, HO7.out, HEN.out.1, HEN.out.2, by rw [← HLE.out]; omega, HB7.out⟩
  ·
   have HZ : Hid (n1 = 0) := by show _ = _; omega
   have h1I : ¬ (0 : Int) < (n1 : Int) := by omega
   have HEN := Lib.hid (rinv_end HI.out (Or.inl (List.eq_nil_of_length_eq_zero (E1.out.symm.trans HZ.out))))
   have HOX : Hid (wr.ownsRow w.heap.size 51 2 (.slice o1 n3 c3) n3 (dcells O)) := by
    have h := HO.out
    unfold DotO at h
    rw [← E3.out] at h
    exact h
   have hz : w.heap.size ≤ wr.heap.size := HBW.out.size
   have HCA : Hid (Cells wr wr.heap.size (.slice a1 n1 c1) n1 2 (dcells A')) := by
    have h := Cells.next HDA.out HBW.out
    rw [← E1.out] at h
    exact h
   go_wp2_with (at_builtin; refine appN (.tmp 56) (.tmp 57) 23 rfl rfl w.heap.size Tryz.underlying23 infoDot rfl (by decide) (by decide) HOX.out rfl rfl HCA.out dcells_one (by omega) hz ?_)
   intro v' w6 hown hg6
   obtain ⟨o6, c6, rfl⟩ := own_slice hown
   have HB6 : Hid (Below w.heap.size w w6) := HBW.out.trans (grown_below HOX.out hz hg6)
   have HO6 := Lib.hid hown
   have hz6 : w.heap.size ≤ w6.heap.size := HB6.out.size
   have HCB : Hid (Cells w6 w6.heap.size (.slice b1 n2 c2) n2 2 (dcells B')) := by
    have h := Cells.next HDB.out HB6.out
    rw [← E2.out] at h
    exact h
   clear hown hg6
   go_wp2_with (at_builtin; refine appN (.tmp 58) (.tmp 59) 23 rfl rfl w.heap.size Tryz.underlying23 infoDot rfl (by decide) (by decide) HO6.out rfl rfl HCB.out dcells_one (by omega) hz6 ?_)
   intro v' w7 hown hg7
   obtain ⟨o7, c7, rfl⟩ := own_slice hown
   have HB7 : Hid (Below w.heap.size w w7) := HB6.out.trans (grown_below HO6.out hz6 hg7)
   have hlen : n3 + n1 + n2 = (O ++ A' ++ B').length := by rw [List.length_append, List.length_append, E1.out, E2.out, E3.out]
   have HO7 : Hid (DotO w.heap.size w7 (.slice o7 (n3 + n1 + n2) c7) (O ++ A' ++ B')) := by
    show World.ownsRow _ _ _ _ _ _ _
    rw [← hlen, dcells_app, dcells_app, List.append_assoc]
    exact hown
   have HLE := Lib.hid hlen
   clear hown hg7 hlen
   go_wp2
   go_ret
   exact ⟨_, _, _, _, rfl, HLE.out, HO7.out, HEN.out.1, HEN.out.2, by rw [← HLE.out]; omega, HB7.out⟩
end Go.Proofs.YtonknpdalemjkaaGreat

