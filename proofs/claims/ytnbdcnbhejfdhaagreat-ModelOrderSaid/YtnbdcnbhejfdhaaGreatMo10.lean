/- texts put together: MdM2, MdRow, At. -/
import Derived.Deep.MidRow
import Derived.Test.YtnbdcnbhejfdhaaGreatLv00
import Derived.Test.YtnbdcnbhejfdhaaGreatLv01
import Derived.Test.YtnbdcnbhejfdhaaGreatLv02
import Derived.Test.YtnbdcnbhejfdhaaGreatLv03
import Derived.Test.YtnbdcnbhejfdhaaGreatLv04
import Derived.Test.YtnbdcnbhejfdhaaGreatLv05
import Derived.Test.YtnbdcnbhejfdhaaGreatLv06
import Derived.Test.YtnbdcnbhejfdhaaGreatLv07
import Derived.Test.YtnbdcnbhejfdhaaGreatLv08
import Derived.Test.YtnbdcnbhejfdhaaGreatLv09
import Derived.Test.YtnbdcnbhejfdhaaGreatLv10
import Derived.Test.YtnbdcnbhejfdhaaGreatLv11
import Derived.Test.YtnbdcnbhejfdhaaGreatMo00
import Derived.Test.YtnbdcnbhejfdhaaGreatMo06
import Derived.Test.YtnbdcnbhejfdhaaGreatMo09
namespace Go.Proofs.YtnbdcnbhejfdhaaGreat
open Go Go.RowKit Go.ChangeShapes cl
def addsF (l : List Fct) : List Fct := l.filter fun f => decide (f.kd = 1)
theorem dots_nodup : ∀ (l C C' : List Fct), dotsF C l = some C' → ((C.map Fct.d).Nodup → (∀ f ∈ addsF l, ∀ g ∈ C, g.d ≠ f.d) ∧ ((addsF l).map Fct.d).Nodup) := by
 intro l
 induction l with
 | nil => intro C C' _ _; exact ⟨(fun f hf => by cases hf), List.nodup_nil⟩
 | cons f l ih =>
  intro C C' h hC
  rw [dotsF, Option.bind_eq_some_iff] at h
  obtain ⟨D, hD, h⟩ := h
  by_cases h1 : f.kd = 1
  ·
   unfold dotS at hD
   rw [if_pos (Or.inl h1)] at hD
   cases hv : valid f.d with
   | false => rw [hv] at hD; simp at hD
   | true =>
    rw [hv, if_pos rfl] at hD
    cases ha : addedF C f.d with
    | some g => rw [ha] at hD; simp [h1] at hD
    | none =>
     rw [ha] at hD
     simp only [h1, if_true, Option.some.injEq] at hD
     subst hD
     have hn : ∀ g ∈ C, g.d ≠ f.d := fun g hg e => by
      unfold addedF at ha
      rw [List.find?_eq_none] at ha
      have := ha g hg
      simp [e] at this
     obtain ⟨p, q⟩ := ih (C ++ [f]) C' h (by
      rw [List.map_append, List.nodup_append]
      refine ⟨hC, by simp, fun a ha b hb e => ?_⟩
      simp only [List.map_cons, List.map_nil, List.mem_singleton] at hb
      obtain ⟨g, hg, rfl⟩ := List.mem_map.1 ha
      exact hn g hg (e.trans hb))
     have he : addsF (f :: l) = f :: addsF l := by unfold addsF; rw [List.filter_cons, if_pos (by simpa using h1)]
     rw [he]
     refine ⟨fun x hx g hg => ?_, ?_⟩
     ·
      rcases List.mem_cons.1 hx with rfl | hx
      ·
       exact hn g hg
      ·
       exact p x hx g (List.mem_append_left _ hg)
     ·
      rw [List.map_cons, List.nodup_cons]
      refine ⟨fun hm => ?_, q⟩
      obtain ⟨x, hx, e⟩ := List.mem_map.1 hm
      exact p x hx f (List.mem_append_right _ (by simp)) e.symm
  ·
   have he : addsF (f :: l) = addsF l := by unfold addsF; rw [List.filter_cons, if_neg (by simpa using h1)]
   rw [he]
   have hDC : D = C := by
    unfold dotS at hD
    by_cases h2 : f.kd = 2
    ·
     rw [if_pos (Or.inr h2)] at hD
     cases hv : valid f.d with
     | false => rw [hv] at hD; simp at hD
     | true =>
      rw [hv, if_pos rfl] at hD
      cases ha : addedF C f.d with
      | none => rw [ha] at hD; simp [h1] at hD
      | some g =>
       rw [ha] at hD
       simp only [h1, if_false] at hD
       by_cases h3 : g.s = f.s ∧ g.t = f.t
       ·
        rw [if_pos h3] at hD; exact (Option.some.inj hD).symm
       ·
        rw [if_neg h3] at hD; cases hD
    ·
     rw [if_neg (by omega)] at hD
     exact (Option.some.inj hD).symm
   rw [hDC] at h
   exact ih C C' h hC
def lvF (f : Fct) : Lv := ⟨f.s, f.d, f.t⟩
def passF (G : List Dot) (l : List Fct) : List Lv := ((addsF l).filter fun f => valid f.d && !decide (f.d ∈ G)).map lvF
theorem passF_cons {G : List Dot} {f : Fct} {l : List Fct} : passF G (f :: l) = if (decide (f.kd = 1) && (valid f.d && !decide (f.d ∈ G))) = true then lvF f :: passF G l else passF G l := by
 unfold passF addsF
 rw [List.filter_cons]
 cases h1 : decide (f.kd = 1) with
 | false => simp
 | true =>
  rw [if_pos rfl, List.filter_cons]
  cases h2 : valid f.d && !decide (f.d ∈ G) with
  | false => simp
  | true => simp
theorem fold_pass (G : List Dot) : ∀ (l : List Fct) (out : List Lv), ((addsF l).map Fct.d).Nodup → (∀ f ∈ addsF l, ∀ x ∈ out, x.d ≠ f.d) → l.foldl (keepS G) out = out ++ passF G l := by
 intro l
 induction l with
 | nil => intro out _ _; show out = out ++ []; rw [List.append_nil]
 | cons f l ih =>
  intro out hn hd
  rw [List.foldl_cons, passF_cons]
  by_cases h1 : f.kd = 1
  ·
   have he : addsF (f :: l) = f :: addsF l := by unfold addsF; rw [List.filter_cons, if_pos (by simpa using h1)]
   rw [he, List.map_cons, List.nodup_cons] at hn
   rw [he] at hd
   have hnm : f.d ∉ out.map Lv.d := fun hm => by
    obtain ⟨x, hx, e⟩ := List.mem_map.1 hm
    exact hd f (List.mem_cons_self ..) x hx e
   have hk : keepB G out f = (decide (f.kd = 1) && (valid f.d && !decide (f.d ∈ G))) := by
    unfold keepB
    rw [decide_eq_false hnm]
    simp [Bool.and_assoc]
   have hks : keepS G out f = if (decide (f.kd = 1) && (valid f.d && !decide (f.d ∈ G))) = true then out ++ [lvF f] else out := by unfold keepS; rw [hk]; rfl
   rw [hks]
   by_cases hc : (decide (f.kd = 1) && (valid f.d && !decide (f.d ∈ G))) = true
   ·
    rw [if_pos hc, if_pos hc, ih _ hn.2 (fun g hg x hx => ?_), List.append_assoc]
    ·
     rfl
    ·
     rcases List.mem_append.1 hx with hx | hx
     ·
      exact hd g (List.mem_cons_of_mem _ hg) x hx
     ·
      obtain rfl := List.mem_singleton.1 hx
      exact fun e => hn.1 (List.mem_map.2 ⟨g, hg, e.symm⟩)
   ·
    rw [if_neg hc, if_neg hc]
    exact ih _ hn.2 fun g hg x hx => hd g (List.mem_cons_of_mem _ hg) x hx
  ·
   have he : addsF (f :: l) = addsF l := by unfold addsF; rw [List.filter_cons, if_neg (by simpa using h1)]
   rw [he] at hn hd
   have hk : keepB G out f = false := by unfold keepB; simp [h1]
   have hks : keepS G out f = out := by unfold keepS; rw [hk]; rfl
   rw [hks, if_neg (by simp [h1])]
   exact ih _ hn hd
theorem keep_pass {l : List Fct} (h : (dotsF [] l).isSome = true) (G : List Dot) : keepF G l = passF G l := by
 obtain ⟨C, hC⟩ := Option.isSome_iff_exists.1 h
 have := dots_nodup l [] C hC List.nodup_nil
 exact (fold_pass G l [] this.2 (fun f _ x hx => by cases hx)).trans (List.nil_append _)
theorem keep_pass' {l m : List Fct} (h : (dotsF [] l).isSome = true) (hp : m.Perm l) (G : List Dot) : keepF G m = passF G m := by
 obtain ⟨C, hC⟩ := Option.isSome_iff_exists.1 h
 have := (dots_nodup l [] C hC List.nodup_nil).2
 have h2 : ((addsF m).map Fct.d).Nodup := ((hp.filter _).map _).nodup_iff.2 this
 exact (fold_pass G m [] h2 (fun f _ x hx => by cases hx)).trans (List.nil_append _)
theorem pass_perm {l m : List Fct} (hp : m.Perm l) {G G' : List Dot} (hG : ∀ d, d ∈ G ↔ d ∈ G') : (passF G m).Perm (passF G' l) := by
 unfold passF
 have : (fun f : Fct => valid f.d && !decide (f.d ∈ G)) = fun f => valid f.d && !decide (f.d ∈ G') := by
  funext f
  by_cases h : f.d ∈ G
  ·
   rw [decide_eq_true h, decide_eq_true ((hG _).1 h)]
  ·
   rw [decide_eq_false h, decide_eq_false (fun h' => h ((hG _).2 h'))]
 rw [this]
 exact ((hp.filter _).filter _).map _
theorem gone_perm {l m : List Fct} (hp : m.Perm l) (d : Dot) : d ∈ goneF m ↔ d ∈ goneF l := ((hp.filter _).map _).mem_iff
theorem upL_unique : ∀ {a b : List Lv}, a.Perm b → UpL a → UpL b → a = b := by
 intro a
 induction a with
 | nil => intro b h _ _; exact h.nil_eq
 | cons x a ih =>
  intro b h ha hb
  cases b with
  | nil => exact absurd h.symm (by simp)
  | cons y b =>
   have irr : ∀ u v : Lv, dless u.d v.d = true → dless v.d u.d = true → False := fun u v p q => by
    have h1 := (dm.dless_iff _ _).1 p
    have h2 := (dm.dless_iff _ _).1 q
    omega
   have hxy : x = y := by
    have hx : x ∈ y :: b := h.mem_iff.1 (List.mem_cons_self ..)
    have hy : y ∈ x :: a := h.mem_iff.2 (List.mem_cons_self ..)
    rcases List.mem_cons.1 hx with e | hx
    ·
     exact e
    ·
     rcases List.mem_cons.1 hy with e | hy
     ·
      exact e.symm
     ·
      exact (irr x y ((List.pairwise_cons.1 ha).1 y hy) ((List.pairwise_cons.1 hb).1 x hx)).elim
   subst hxy
   rw [ih (List.perm_cons x |>.1 h) (List.pairwise_cons.1 ha).2 (List.pairwise_cons.1 hb).2]
theorem order_same {l m : List Fct} (h : (dotsF [] l).isSome = true) (hp : m.Perm l) {A B : List Lv} (hA : A.Perm (keepF (goneF l) l)) (hB : B.Perm (keepF (goneF m) m)) (uA : UpL A) (uB : UpL B) : B = A := by
 rw [keep_pass h] at hA
 rw [keep_pass' h hp] at hB
 exact upL_unique (hB.trans ((pass_perm hp (gone_perm hp)).trans hA.symm)) uB uA
end Go.Proofs.YtnbdcnbhejfdhaaGreat
namespace Go.Proofs.YtnbdcnbhejfdhaaGreat
open Go Go.RowKit Go.ChangeShapes cl
theorem appN {P : Program} {w : World} {ops : Array Oper} {rest : List Oper} {o : Oper} {a : Act} {Q : Exit → Act → World → Prop}
  (s x : Operand) (t : TypeId) (hgd : o.guard = none)
  (ho : o.op = .call { callee := .builtin .append, args := #[s, x], argTypes := #[t, t] })
  (base : Nat) {e : TypeId} {z : Value} {size bytes : Nat} (ht : P.underlying t = some (.slice e)) (hi : (P.info? e).map (fun i => (i.zero, i.size, i.bytes)) = some (some z, size, bytes))
  (hzs : z.cells.size = size) (hsz : 0 < size) (hb1 : 0 < bytes)
  {v : Value} {n : Nat} {xs : List Value} (hown : w.ownsRow base e size v n xs) (hs : a.eval s = v)
  {ao : Option Addr} {m c : Nat} {news : List Value} (hx : a.eval x = .slice ao m c) (hc : Cells w w.heap.size (.slice ao m c) m size news) (h1 : ∀ u ∈ news, u.oneCell' = true)
  (hbytes : (n + m) * bytes ≤ 140737488355328) (hbase : base ≤ w.heap.size)
  (h : ∀ v' w', w'.ownsRow base e size v' (n + m) (xs ++ news) → w.grownBy w' v.ownBlock → wpList P ops Q rest (a.put o.dst v') w') :
  wpList P ops Q (o :: rest) a w := by
 obtain ⟨i, hi', hz, hsize, hby⟩ := info_parts hi
 subst hsize
 subst hby
 have hle : n + m ≤ (n + m) * i.bytes := Nat.le_mul_of_pos_right _ hb1
 have hl : news.length = m * i.size := hc.1
 obtain ⟨hnone, hnews⟩ := Cells.news hc
 cases ao with
 | none =>
  obtain ⟨rfl, rfl⟩ := hnone rfl
  obtain rfl : news = [] := List.eq_nil_of_length_eq_zero (by simpa using hl)
  refine wpList_append_own_none hgd s x t ho base e i i.size ht hi' _ n xs hs hown hx (h _ w ?_ ?_)
  ·
   rw [List.append_nil]; exact hown
  ·
   exact ⟨rfl, rfl, rfl, Nat.le_refl _, fun k _ _ => rfl⟩
 | some ad =>
  exact wpList_append_own _ hgd s x t ho base e i z i.size i.bytes ht hi' hz rfl rfl hzs hsz v n xs hs hown ad m c news hx hl (hnews ad rfl) h1 (by unfold maxLen; omega) hbytes hbase fun v' w' r1 r2 _ => h v' w' r1 r2
def sput (xs : List Value) (o : Nat) : List Value → List Value
 | [] => xs
 | u :: us => sput (xs.set o u) (o + 1) us
theorem sput_mid : ∀ (us p q r : List Value), us.length = q.length → sput (p ++ q ++ r) p.length us = p ++ us ++ r := by
 intro us
 induction us with
 | nil =>
  intro p q r h
  obtain rfl := List.eq_nil_of_length_eq_zero h.symm
  rfl
 | cons u us ih =>
  intro p q r h
  cases q with
  | nil => simp at h
  | cons y q =>
   have e : (p ++ y :: q ++ r).set p.length u = (p ++ [u]) ++ q ++ r := by simp
   rw [sput, e]
   have := ih (p ++ [u]) q r (by simpa using h)
   rw [List.length_append] at this
   simp only [List.length_cons, List.length_nil, Nat.zero_add] at this
   rw [this]; simp
theorem flat_set {k : Nat} : ∀ (cs : List (List Value)) (i : Nat) (c : List Value), (∀ x ∈ cs, x.length = k) → c.length = k → i < cs.length → sput cs.flatten (i * k) c = (cs.set i c).flatten := by
 intro cs i c h hc hi
 have e1 : cs = cs.take i ++ cs[i] :: cs.drop (i + 1) := by rw [List.getElem_cons_drop, List.take_append_drop]
 have hl : ((cs.take i).flatten).length = i * k := by
  rw [flat_len (k := k) _ (fun x hx => h x (List.mem_of_mem_take hx)), List.length_take, Nat.min_eq_left (by omega)]
 have e2 : cs.flatten = (cs.take i).flatten ++ cs[i] ++ (cs.drop (i + 1)).flatten := by
  have := congrArg List.flatten e1
  rw [List.flatten_append, List.flatten_cons] at this
  rw [List.append_assoc]; exact this
 have e3 : (cs.set i c).flatten = (cs.take i).flatten ++ c ++ (cs.drop (i + 1)).flatten := by
  rw [List.set_eq_take_append_cons_drop, if_pos hi]; simp
 rw [e2, e3, ← hl]
 exact sput_mid c _ _ _ (by rw [hc]; exact (h _ (List.getElem_mem _)).symm)
theorem own_cells_set {B : Nat} {T : TypeId} {k g n cap : Nat} : ∀ (us : List Value) (o : Nat) (w : World) (xs : List Value), w.ownsRow B T k (.slice (some ⟨g, 0, none⟩) n cap) n xs → (w.setCells g o us).ownsRow B T k (.slice (some ⟨g, 0, none⟩) n cap) n (sput xs o us)
 | [], _, _, _, h => h
 | u :: us, o, _, _, h => own_cells_set us (o + 1) _ _ (h.stored o u).1
theorem below_sets {B g : Nat} (hB : B ≤ g) : ∀ (us : List Value) (o : Nat) (w w0 : World), Below B w0 w → Below B w0 (w.setCells g o us)
 | [], _, _, _, h => h
 | u :: us, o, _, _, h => below_sets hB us (o + 1) _ _ (h.setCell hB u)
def fcell (x : Fct) (p : Option Addr × Nat × Nat × Option Addr × Nat × Nat × Int × Bool) : List Value := [.int .i64 x.kd, .string x.s, .int .i64 x.d.1, .int .i64 x.d.2, .int .i64 x.t, .slice p.1 p.2.1 p.2.2.1, .slice p.2.2.2.1 p.2.2.2.2.1 p.2.2.2.2.2.1, .int .i64 p.2.2.2.2.2.2.1, .bool p.2.2.2.2.2.2.2]
abbrev FPt := Option Addr × Nat × Nat × Option Addr × Nat × Nat × Int × Bool
instance fptInh : Inhabited FPt := ⟨(none, 0, 0, none, 0, 0, 0, false)⟩
def fcs (l : List (Fct × FPt)) : List (List Value) := l.map fun p => fcell p.1 p.2
theorem fcs_len (l : List (Fct × FPt)) : ∀ c ∈ fcs l, c.length = 9 := by
 intro c hc
 obtain ⟨p, _, rfl⟩ := List.mem_map.1 hc
 rfl
theorem fcs_one (l : List (Fct × FPt)) : ∀ u ∈ (fcs l).flatten, u.oneCell' = true := by
 intro u hu
 obtain ⟨c, hc, hu⟩ := List.mem_flatten.1 hu
 obtain ⟨p, _, rfl⟩ := List.mem_map.1 hc
 simp only [fcell, List.mem_cons, List.not_mem_nil, or_false] at hu
 rcases hu with rfl | rfl | rfl | rfl | rfl | rfl | rfl | rfl | rfl <;> rfl
theorem fcts_cells {w : World} {B : Nat} {v : Value} {l : List Fct} (h : Fcts w B v l) : ∃ ps : List (Fct × FPt), ps.map (·.1) = l ∧ Cells w B v l.length 9 (fcs ps).flatten := by
 obtain ⟨cs, h0, h1, h2⟩ := h
 have key : ∀ (l : List Fct) (cs : List (List Value)), cs.length = l.length → (∀ (j : Nat) (c : List Value) (x : Fct), cs[j]? = some c → l[j]? = some x → c.length = 9 ∧ fctR w B c x) → ∃ ps : List (Fct × FPt), ps.map (·.1) = l ∧ fcs ps = cs := by
  intro l
  induction l with
  | nil => intro cs h _; exact ⟨[], rfl, by rw [List.eq_nil_of_length_eq_zero h]; rfl⟩
  | cons x l ih =>
   intro cs h h1
   cases cs with
   | nil => simp at h
   | cons c cs =>
    obtain ⟨ps, e1, e2⟩ := ih cs (by simpa using h) (fun j c y hc hy => h1 (j + 1) c y (by simpa using hc) (by simpa using hy))
    obtain ⟨_, ma, mn, mc, la, ln, lc, er, st, rfl⟩ := h1 0 c x rfl rfl
    exact ⟨(x, (ma, mn, mc, la, ln, lc, er, st)) :: ps, by rw [List.map_cons, e1], by unfold fcs at *; rw [List.map_cons, e2]; rfl⟩
 obtain ⟨ps, e1, e2⟩ := key l cs h0 h1
 exact ⟨ps, e1, by rw [e2]; exact h2⟩
theorem cells_fcts {w : World} {B : Nat} {v : Value} {ps : List (Fct × FPt)} (h : Cells w B v ps.length 9 (fcs ps).flatten) : Fcts w B v (ps.map (·.1)) := by
 refine ⟨fcs ps, by simp [fcs], fun j c x hc hx => ?_, by rw [List.length_map]; exact h⟩
 have hj : j < ps.length := by have := (List.getElem?_eq_some_iff.1 hx).1; simpa using this
 simp only [fcs, List.getElem?_map, List.getElem?_eq_getElem hj, Option.map_some, Option.some.injEq] at hc hx
 subst hc
 subst hx
 exact ⟨rfl, _, _, _, _, _, _, _, _, rfl⟩
def exchF (ps : List (Fct × FPt)) (a b : Nat) : List (Fct × FPt) := (ps.set a (ps.getD b default)).set b (ps.getD a default)
theorem exchF_perm {ps : List (Fct × FPt)} {a b : Nat} (ha : a < ps.length) (hb : b < ps.length) : (exchF ps a b).Perm ps := by
 unfold exchF
 have h1 : ps.getD a default = ps[a] := by simp [List.getD, ha]
 have h2 : ps.getD b default = ps[b] := by simp [List.getD, hb]
 rw [h1, h2]
 exact List.set_set_perm ha hb
theorem fcs_set (ps : List (Fct × FPt)) (i : Nat) (x : Fct × FPt) : fcs (ps.set i x) = (fcs ps).set i (fcell x.1 x.2) := by simp [fcs, List.map_set]
theorem own_put {W : World} {B g n cap i : Nat} {ps : List (Fct × FPt)} {x : Fct × FPt} (h : W.ownsRow B 40 9 (.slice (some ⟨g, 0, none⟩) n cap) n (fcs ps).flatten) (hi : i < ps.length) :
  (W.setCells g (i * 9) (fcell x.1 x.2)).ownsRow B 40 9 (.slice (some ⟨g, 0, none⟩) n cap) n (fcs (ps.set i x)).flatten := by
 have := own_cells_set (fcell x.1 x.2) (i * 9) W _ h
 rwa [flat_set (k := 9) (fcs ps) i _ (fcs_len ps) rfl (by simpa [fcs] using hi), ← fcs_set] at this
theorem own_row {W : World} {B g n cap i : Nat} {ps : List (Fct × FPt)} (h : W.ownsRow B 40 9 (.slice (some ⟨g, 0, none⟩) n cap) n (fcs ps).flatten) (hn : n = ps.length) (hi : i < n) :
  ∀ j, j < 9 → W.cell? ⟨g, i * 9 + j, none⟩ = (fcell (ps.getD i default).1 (ps.getD i default).2)[j]? ∧ W.frozen? ⟨g, i * 9 + j, none⟩ = false := fun j hj => by
 subst hn
 refine ⟨?_, h.frozenAt _⟩
 rw [h.cellAt _ (by omega), flat_get (k := 9) (fcs ps) (fcs_len ps) i (fcell (ps.getD i default).1 (ps.getD i default).2) j (by
  simp [fcs, List.getElem?_map, List.getElem?_eq_getElem hi, List.getD]) hj]
end Go.Proofs.YtnbdcnbhejfdhaaGreat
namespace Go.Proofs.YtnbdcnbhejfdhaaGreat.at_
open Go.RowKit
def At (w : World) (B : Nat) (v : Value) (zs : List Int) : Prop :=
 ∃ (ao : Option Addr) (cap : Nat), v = .slice ao zs.length cap ∧ ((ao = none → cap = 0) ∧ zs.length ≤ cap) ∧ zs.length ≤ maxLen ∧
  (0 < zs.length → ∃ b off, ao = some ⟨b, off, none⟩ ∧ b < B ∧ ∀ j, j < zs.length → w.cell? ⟨b, off + j, none⟩ = some (.int .i64 (zs.getD j 0)))
theorem At.below {w w' : World} {B : Nat} {v : Value} {zs : List Int} (h : At w B v zs) (hb : Below B w w') : At w' B v zs := by
 obtain ⟨ao, cap, rfl, h1, h3, h2⟩ := h
 refine ⟨ao, cap, rfl, h1, h3, fun hp => ?_⟩
 obtain ⟨b, off, e, hB, hc⟩ := h2 hp
 exact ⟨b, off, e, hB, fun j hj => by rw [hb.cell (p := ⟨b, off + j, none⟩) hB]; exact hc j hj⟩
theorem At.mono {w : World} {B B' : Nat} {v : Value} {zs : List Int} (h : At w B v zs) (hb : B ≤ B') : At w B' v zs := by
 obtain ⟨ao, cap, rfl, h1, h3, h2⟩ := h
 refine ⟨ao, cap, rfl, h1, h3, fun hp => ?_⟩
 obtain ⟨b, off, e, hB, hc⟩ := h2 hp
 exact ⟨b, off, e, by omega, hc⟩
def i64s (zs : List Int) : List Value := zs.map (Value.int .i64)
theorem i64s_at {l : List Int} {j : Nat} {u : Value} (h : (i64s l)[j]? = some u) : j < l.length ∧ u = .int .i64 (l.getD j 0) := by
 simp only [i64s, List.getElem?_map, Option.map_eq_some_iff] at h
 obtain ⟨x, hx, rfl⟩ := h
 obtain ⟨hj, e⟩ := List.getElem?_eq_some_iff.1 hx
 exact ⟨hj, by simp [List.getD, hj, e]⟩
theorem At.empty {w : World} {B cap : Nat} {a : Addr} : At w B (.slice (some a) 0 cap) [] :=
 ⟨some a, cap, rfl, ⟨(fun e => by cases e), Nat.zero_le _⟩, by simp, fun h => absurd h (by simp)⟩
theorem At.cells {w : World} {B : Nat} {ao : Option Addr} {n cap : Nat} {l : List Int} (h : At w B (.slice ao n cap) l) : n = l.length ∧ (ao = none → n = 0 ∧ cap = 0) ∧ (∀ ad, ao = some ad → ∀ j u, (i64s l)[j]? = some u → w.cell? (ad.add j) = some u) := by
 obtain ⟨ao', c, e, ⟨h1, h2⟩, h3, h4⟩ := h
 simp only [Value.slice.injEq] at e
 obtain ⟨rfl, rfl, rfl⟩ := e
 refine ⟨rfl, fun e => ⟨by have := h1 e; omega, h1 e⟩, fun ad e j u hj => ?_⟩
 obtain ⟨hjl, rfl⟩ := i64s_at hj
 obtain ⟨b, o, e2, _, hc⟩ := h4 (by omega)
 rw [e] at e2
 obtain rfl := Option.some.inj e2
 rw [Addr.add_lit]
 exact hc j hjl
theorem nil (w : World) (B : Nat) : At w B (.slice none 0 0) [] := ⟨none, 0, rfl, ⟨fun _ => rfl, Nat.le_refl _⟩, by simp, fun h => absurd h (by simp)⟩
theorem own {w : World} {base : Nat} {e : TypeId} {v : Value} {zs : List Int} (h : w.ownsRow base e 1 v zs.length (i64s zs)) : At w w.heap.size v zs := by
 have hlt := h.lt
 rcases h.2 with ⟨rfl, hx⟩ | ⟨g, cap, cur, rfl, hbg, hg, hnc, hcm, hcs, htake⟩
 ·
  obtain rfl : zs = [] := List.eq_nil_of_length_eq_zero hx
  exact nil w _
 ·
  refine ⟨_, _, rfl, ⟨(fun e => by cases e), hnc⟩, Nat.le_trans hnc hcm, fun _ => ⟨g, 0, rfl, (hlt g rfl).2, fun j hj => ?_⟩⟩
  have := h.cells (g := g) rfl j (.int .i64 (zs.getD j 0)) (by
   simp only [i64s, List.getElem?_map]
   rw [List.getElem?_eq_getElem hj]
   simp [List.getD, hj])
  rw [Addr.add_lit] at this
  exact this
end Go.Proofs.YtnbdcnbhejfdhaaGreat.at_

