/- texts put together: RxAwk, RxFlat, RrMath2, RrRel, RrRel2, RrRel3, RxRIn, RfFn0. -/
import Derived.Test.YtbccejlemhgioaaPa00
import Derived.Test.YtbccejlemhgioaaPa01
import Derived.Test.YtbccejlemhgioaaPa02
import Derived.Test.YtbccejlemhgioaaPa03
namespace Go.Proofs.Ytbccejlemhgioaa
open Go Go.RowKit Go.ChangeShapes cl rx
def Said (b : Bool) (w : World) : Ending → World → Prop := fun e w' => e = .returned (.bool b) ∧ Below w.heap.size w w'
def pA : Pat := .mk 4 .zero [.ofCls (.one 97), .mk 3 .zero [.ofCls (.one 98), .mk 5 .zero [.ofCls (.one 99)] 0 (-1)] 0 0] 0 0
theorem bytes_a : kit.bytes ⟨#[97, 124, 98, 99, 42]⟩ = [97, 124, 98, 99, 42] := by kernel_rfl
theorem bytes_b : kit.bytes ⟨#[97, 42, 42]⟩ = [97, 42, 42] := by kernel_rfl
theorem okR_a : okR 48 pA = true := by kernel_rfl
theorem kid_at {d : Nat} {w : World} {B : Nat} {ko : Option Addr} {kn kc : Nat} {l : List Pat} (h : RowsAt 8 (rxR d) w B (.slice ko kn kc) l) (hn : kn = l.length) (i : Nat) (hi : i < kn) :
  ∃ (b o : Nat) (so : Option Addr) (sn sc : Nat), ko = some ⟨b, o, none⟩ ∧ b < B ∧ sn = (l.getD i default).ks.length ∧ w.cell? ⟨b, o + i * 8, none⟩ = some (.int .i64 (l.getD i default).k) ∧ w.cell? ⟨b, o + i * 8 + 5, none⟩ = some (.slice so sn sc) ∧ w.cell? ⟨b, o + i * 8 + 7, none⟩ = some (.int .i64 (l.getD i default).mx) ∧ ∃ d', d = d' + 1 ∧ RowsAt 8 (rxR d') w B (.slice so sn sc) (l.getD i default).ks := by
 obtain ⟨b, o, c, rfl, hbB, hcl, hR, hC⟩ := h.get hn hi default
 cases d with
 | zero => exact hR.elim
 | succ d' =>
  obtain ⟨so, sn, sc, rfl, hK⟩ := hR
  obtain ⟨_, _, e, _, _⟩ := hK.form
  simp only [Value.slice.injEq] at e
  exact ⟨b, o, so, sn, sc, rfl, hbB, e.2.1, hC 0 _ rfl, hC 5 _ rfl, hC 7 _ rfl, d', rfl, hK⟩
end Go.Proofs.Ytbccejlemhgioaa
namespace Go.Proofs.Ytbccejlemhgioaa
open Go Go.RowKit Go.ChangeShapes cl rx
open rf
namespace rf
def sel (kind : Int) (x : Pat) : List Pat := if x.k = kind then x.ks else if kind ≠ 3 ∨ x.k ≠ 1 then [x] else []
def lf (kind : Int) (l : List Pat) : List Pat := l.flatMap (sel kind)
def lflat (kind : Int) (l : List Pat) : Pat := match lf kind l with
 | [] => .mk 1 .zero [] 0 0
 | [x] => x
 | l => .mk kind .zero l 0 0
theorem sel_or : sel 4 = fun x => if x.k = 4 then x.ks else [x] := by
 funext x
 unfold sel
 by_cases h : x.k = 4
 ·
  rw [if_pos h, if_pos h]
 ·
  rw [if_neg h, if_neg h, if_pos (Or.inl (by decide))]
theorem lf_or (l : List Pat) : lflat 4 l = Pat.gather 4 l := by
 have h : lf 4 l = Pat.flat 4 l := by unfold lf Pat.flat; rw [sel_or]
 unfold lflat Pat.gather
 rw [h]
 generalize Pat.flat 4 l = m
 match m with
 | [] => rfl
 | [_] => rfl
 | _ :: _ :: _ => rfl
theorem lf_then (l : List Pat) : lflat 3 l = Pat.gather 3 (l.filter (fun x => x.k != 1)) := by
 have : lf 3 l = Pat.flat 3 (l.filter (fun x => x.k != 1)) := by
  induction l with
  | nil => rfl
  | cons x l ih =>
   unfold lf at ih ⊢
   rw [List.flatMap_cons, ih]
   unfold sel
   by_cases h1 : x.k = 1
   ·
    have hb : (x.k != 1) = false := by simp [h1]
    rw [List.filter_cons, hb, if_neg (by omega), if_neg (by omega)]
    rfl
   ·
    have hb : (x.k != 1) = true := by simp [h1]
    rw [List.filter_cons, hb]
    simp only [if_true]
    unfold Pat.flat
    rw [List.flatMap_cons, if_pos (Or.inr h1)]
 unfold lflat Pat.gather
 rw [this]
 rfl
theorem lf_take (kind : Int) (l : List Pat) {k : Nat} {x : Pat} (h : l[k]? = some x) : lf kind (l.take (k + 1)) = lf kind (l.take k) ++ sel kind x := by
 unfold lf
 rw [List.take_add_one, h, List.flatMap_append]
 simp
theorem sz_sel (kind : Int) (x : Pat) : szs (sel kind x) ≤ sz x := by
 have := ks_sz x
 unfold sel
 split
 ·
  omega
 ·
  split
  ·
   simp only [szs]; omega
  ·
   simp only [szs]; omega
theorem szs_lf (kind : Int) : ∀ l : List Pat, szs (lf kind l) ≤ szs l
 | [] => Nat.le_refl _
 | x :: l => by
  have h := szs_lf kind l
  unfold lf at h ⊢
  rw [List.flatMap_cons, szs_app]
  simp only [szs]
  have := sz_sel kind x
  omega
theorem lf_take_len (kind : Int) (l : List Pat) (k : Nat) : (lf kind (l.take k)).length ≤ szs l :=
 Nat.le_trans (szs_len _) (Nat.le_trans (szs_lf kind _) (szs_take l k))
theorem lflat_is (kind : Int) (l : List Pat) : (lf kind l = [] → lflat kind l = .mk 1 .zero [] 0 0) ∧ (∀ x, lf kind l = [x] → lflat kind l = x) ∧ (2 ≤ (lf kind l).length → lflat kind l = .mk kind .zero (lf kind l) 0 0) := by
 unfold lflat
 refine ⟨fun h => by rw [h], fun x h => by rw [h], fun h => ?_⟩
 match lf kind l, h with
 | a :: b :: r, _ => rfl
end rf
def RxN (d : Nat) (W : World) (ks : List (List Value)) (L : List Pat) : Prop := ks.length = L.length ∧ ∀ (j : Nat) (c : List Value) (x : Pat), ks[j]? = some c → L[j]? = some x → c.length = 8 ∧ rxR d W W.heap.size c x
theorem RxN.next {d : Nat} {W W' : World} {ks : List (List Value)} {L : List Pat} (h : RxN d W ks L) (hb : Below W.heap.size W W') : RxN d W' ks L :=
 ⟨h.1, fun j c x hc hx => ⟨(h.2 j c x hc hx).1, rxR_steady d _ _ _ _ _ _ (h.2 j c x hc hx).2 hb hb.size⟩⟩
def RxB (d : Nat) (w : World) (ks : List (List Value)) (L : List Pat) : Prop := ks.length = L.length ∧ ∀ (j : Nat) (c : List Value) (x : Pat), ks[j]? = some c → L[j]? = some x → c.length = 8 ∧ rxR d w w.heap.size c x
theorem RxB.app {d : Nat} {w : World} {ks ms : List (List Value)} {L M : List Pat} (h : RxB d w ks L) (k : RxB d w ms M) : RxB d w (ks ++ ms) (L ++ M) := by
 refine ⟨by rw [List.length_append, List.length_append, h.1, k.1], fun j c x hc hx => ?_⟩
 rcases Nat.lt_or_ge j ks.length with hj | hj
 ·
  rw [List.getElem?_append_left hj] at hc
  rw [List.getElem?_append_left (by rw [← h.1]; exact hj)] at hx
  exact h.2 j c x hc hx
 ·
  rw [List.getElem?_append_right hj] at hc
  rw [List.getElem?_append_right (by rw [← h.1]; exact hj), ← h.1] at hx
  exact k.2 _ c x hc hx
theorem RxB.all {d : Nat} {w : World} {ks : List (List Value)} {L : List Pat} (h : RxB d w ks L) : ∀ c ∈ ks, c.length = 8 ∧ ∀ u ∈ c, u.oneCell' = true := by
 intro c hc
 obtain ⟨j, hj, rfl⟩ := List.mem_iff_getElem.1 hc
 have hl : j < L.length := by rw [← h.1]; exact hj
 exact rx_one (h.2 j _ L[j] (List.getElem?_eq_getElem hj) (List.getElem?_eq_getElem hl)).2
theorem RxB.one {d : Nat} {w : World} {c : List Value} {x : Pat} (h : rxR d w w.heap.size c x) : RxB d w [c] [x] := by
 refine ⟨rfl, fun j c' x' hc hx => ?_⟩
 cases j with
 | zero =>
  simp only [List.getElem?_cons_zero, Option.some.injEq] at hc hx
  subst hc; subst hx
  exact ⟨(rx_one h).1, h⟩
 | succ j => simp at hc
end Go.Proofs.Ytbccejlemhgioaa
namespace Go.Proofs.Ytbccejlemhgioaa.rr
open rx
section
variable (s : List Nat)
def atom (E : Option (R → R × Pat)) (r : R) : R × Pat :=
 match s[r.p]? with
 | none => (r, .zero)
 | some c =>
  if c = 40 then
   match E with
   | none => (r.fail r.p 11, .zero)
   | some e =>
    let q := e r.fwd
    if q.1.co ≠ 0 then (q.1, .zero) else
    if s.length ≤ q.1.p then (q.1.fail r.p 9, .zero) else (q.1.fwd, q.2)
  else if c = 91 then cls s r
  else if c = 46 then (r.fwd, Pat.ofCls (rf.oth .zero))
  else if c = 92 then let q := escape s r; (q.1, Pat.ofCls q.2.1)
  else if (rf.spc c = true ∧ c ≠ 45) ∨ c < 32 ∨ 126 < c then (r.fail r.p 9, .zero)
  else (r.fwd, Pat.ofCls (.one c))
section
variable (M : R → R × Pat)
def rowF : Nat → List Pat → R → R × List Pat
 | 0, l, r => (r, l)
 | f + 1, l, r =>
  match cur s r with
  | none => (r, l)
  | some c => if c = 124 ∨ c = 41 then (r, l) else let q := M r; rowF f (l ++ [q.2]) q.1
def row (r : R) : R × Pat := let q := rowF s M (s.length + 1) [] r; (q.1, rf.lflat 3 q.2)
def rowsF : Nat → List Pat → R → R × List Pat
 | 0, l, r => (r, l)
 | f + 1, l, r => if cur s r = some 124 then let q := row s M r.fwd; rowsF f (l ++ [q.2]) q.1 else (r, l)
def rows (r : R) : R × Pat := let x := row s M r; let q := rowsF s M (s.length + 1) [x.2] x.1; (q.1, rf.lflat 4 q.2)
end
def either : Nat → R → R × Pat
 | 0 => rows s (many s (atom s none))
 | n + 1 => rows s (many s (atom s (some (either n))))
def manyD : Nat → R → R × Pat
 | 0 => many s (atom s none)
 | n + 1 => many s (atom s (some (either s n)))
theorem either_eq (n : Nat) : either s n = rows s (manyD s n) := by cases n <;> rfl
def parse : Pat × Int × Int :=
 if 60 < s.length then (.zero, 0, 4) else
 let q := either s 12 ⟨0, 0⟩
 let r := if q.1.co = 0 ∧ q.1.p < s.length then q.1.fail q.1.p 9 else q.1
 if r.co ≠ 0 then (.zero, r.p, r.co) else (q.2, 0, 0)
end
end Go.Proofs.Ytbccejlemhgioaa.rr
namespace Go.Proofs.Ytbccejlemhgioaa.rr
open rx
def Rel (t : rf.T) (r : R) : Prop := r.co = t.co ∧ (t.co = 0 → r.p = t.p) ∧ (t.co ≠ 0 → (r.p : Int) = t.wr)
def At (t : rf.T) (r : R) : Prop := r.co = 0 ∧ t.co = 0 ∧ r.p = t.p
theorem At.rel {t : rf.T} {r : R} (h : At t r) : Rel t r := ⟨h.1.trans h.2.1.symm, fun _ => h.2.2, fun e => absurd h.2.1 e⟩
theorem Rel.at {t : rf.T} {r : R} (h : Rel t r) (h0 : t.co = 0) : At t r := ⟨h.1.trans h0, h0, h.2.1 h0⟩
theorem At.fwd {t : rf.T} {r : R} (h : At t r) : At t.fwd r.fwd := ⟨h.1, h.2.1, by show r.p + 1 = t.p + 1; rw [h.2.2]⟩
theorem At.fail {t : rf.T} {r : R} (h : At t r) (a : Nat) (co : Int) (hc : co ≠ 0) : Rel (t.fail a co) (r.fail a co) := by
 unfold rf.T.fail R.fail
 rw [if_pos h.1, if_pos h.2.1]
 exact ⟨rfl, fun e => absurd e hc, fun _ => rfl⟩
theorem Rel.fail {t : rf.T} {r : R} (h : Rel t r) (a : Nat) (co : Int) (hc : co ≠ 0) : Rel (t.fail a co) (r.fail a co) := by
 by_cases h0 : t.co = 0
 ·
  exact (h.at h0).fail a co hc
 ·
  have h1 : r.co ≠ 0 := by rw [h.1]; exact h0
  unfold rf.T.fail R.fail
  rw [if_neg h0, if_neg h1]
  exact h
section
variable (s : List Nat)
theorem cur_nxt {t : rf.T} {r : R} (h : Rel t r) : cur s r = rf.nxt s t := by
 unfold cur rf.nxt
 by_cases h0 : t.co = 0
 ·
  rw [if_pos h0, if_pos (h.1.trans h0), h.2.1 h0]
 ·
  rw [if_neg h0, if_neg (by rw [h.1]; exact h0)]
theorem escape_rel {t : rf.T} {r : R} (h : At t r) : Rel (rf.escape s t.p t.fwd).2 (escape s r).1 ∧ (escape s r).2 = (rf.escape s t.p t.fwd).1 := by
 have hn : rf.nxt s t.fwd = s[r.p + 1]? := by
  unfold rf.nxt
  rw [if_pos (show t.fwd.co = 0 from h.2.1)]
  show s[t.p + 1]? = _
  rw [h.2.2]
 have hx : ∀ c, rf.hex s c ⟨r.p + 2, 0, 0⟩ = rf.hex s c t.fwd.fwd := by
  intro c
  unfold rf.hex
  simp only [rf.T.fwd]
  rw [h.2.2]
 unfold rf.escape escape
 rw [hn]
 cases s[r.p + 1]? with
 | none => exact ⟨by rw [h.2.2]; exact h.fwd.fail _ 9 (by decide), rfl⟩
 | some c =>
  simp only
  split
  ·
   exact ⟨h.fwd.fwd.rel, rfl⟩
  ·
   split
   ·
    exact ⟨h.fwd.fwd.rel, rfl⟩
   ·
    split
    ·
     exact ⟨h.fwd.fwd.rel, rfl⟩
    ·
     rw [hx]
     cases rf.hex s c t.fwd.fwd with
     | none => exact ⟨by rw [h.2.2]; exact h.fwd.fwd.fail _ 9 (by decide), rfl⟩
     | some v => exact ⟨h.fwd.fwd.fwd.fwd.rel, rfl⟩
end
end Go.Proofs.Ytbccejlemhgioaa.rr
namespace Go.Proofs.Ytbccejlemhgioaa.rr
open rx
theorem At.ffail {t : rf.T} {r : R} (h : At t r) (a : Nat) (co : Int) (hc : co ≠ 0) : Rel (t.fwd.fail a co) (r.fail a co) := by
 unfold rf.T.fail R.fail
 rw [if_pos h.1, if_pos (show t.fwd.co = 0 from h.2.1)]
 exact ⟨rfl, fun e => absurd e hc, fun _ => rfl⟩
theorem fail_co {r : R} {a : Nat} {co : Int} (hc : co ≠ 0) : (r.fail a co).co ≠ 0 := by
 unfold R.fail
 split
 ·
  exact hc
 ·
  assumption
section
variable (s : List Nat)
theorem escape_adv {r : R} (h : (escape s r).1.co = 0) : r.p < (escape s r).1.p ∧ r.co = 0 := by
 unfold escape at h ⊢
 cases hq : s[r.p + 1]? with
 | none => rw [hq] at h; exact absurd h (fail_co (by decide))
 | some c =>
  rw [hq] at h
  simp only at h ⊢
  split at h
  ·
   rename_i h1; rw [if_pos h1]; exact ⟨by show r.p < r.p + 1 + 1; omega, h⟩
  ·
   rename_i h1
   rw [if_neg h1]
   split at h
   ·
    rename_i h2; rw [if_pos h2]; exact ⟨by show r.p < r.p + 1 + 1; omega, h⟩
   ·
    rename_i h2
    rw [if_neg h2]
    split at h
    ·
     rename_i h3; rw [if_pos h3]; exact ⟨by show r.p < r.p + 1 + 1; omega, h⟩
    ·
     rename_i h3
     rw [if_neg h3]
     cases hx : rf.hex s c ⟨r.p + 2, 0, 0⟩ with
     | none => rw [hx] at h; exact absurd h (fail_co (by decide))
     | some v => rw [hx] at h; exact ⟨by show r.p < r.p + 1 + 1 + 1 + 1; omega, h⟩
theorem member_adv {r : R} {c : Nat} (hc : s[r.p]? = some c) (h : (member s r).1.co = 0) : r.p < (member s r).1.p ∧ r.co = 0 := by
 unfold member at h ⊢
 rw [hc] at h ⊢
 simp only at h ⊢
 split at h
 ·
  rename_i h1; rw [if_pos h1]; exact escape_adv s h
 ·
  rename_i h1
  rw [if_neg h1]
  split at h
  ·
   exact absurd h (fail_co (by decide))
  ·
   rename_i h2; rw [if_neg h2]; exact ⟨Nat.lt_succ_self _, h⟩
theorem single_rel {t : rf.T} {r : R} (h : At t r) {c : Nat} (hc : s[r.p]? = some c) (h9 : c ≠ 93) : Rel (rf.single s t).2 (member s r).1 ∧ (member s r).2 = (rf.single s t).1 := by
 unfold rf.single member
 rw [← h.2.2, hc]
 simp only
 by_cases h1 : c = 92
 ·
  rw [if_pos h1, if_pos h1]
  have := escape_rel s h
  rw [← h.2.2] at this
  exact this
 ·
  rw [if_neg h1, if_neg h1]
  by_cases h2 : c = 91 ∨ c = 45 ∨ c = 94 ∨ c < 32 ∨ 126 < c
  ·
   rw [if_pos h2, if_pos (by omega)]
   exact ⟨h.ffail _ 9 (by decide), rfl⟩
  ·
   rw [if_neg h2, if_neg (by omega)]
   exact ⟨h.fwd.rel, rfl⟩
def mem1 (r : R) : Cls × R :=
 let m := member s r
 if m.2.2.2 = true ∧ cur s m.1 = some 45 then
  let r2 := m.1.fwd
  if cur s r2 = none ∨ cur s r2 = some 93 then (.zero, r2.fail r.p 9) else
  let q := member s r2
  (rf.span m.2.2.1 q.2.2.1, if q.1.co = 0 ∧ (q.2.2.2 = false ∨ q.2.2.1 < m.2.2.1) then q.1.fail r.p 9 else q.1)
 else (m.2.1, m.1)
theorem mem1_adv {r : R} {c : Nat} (hc : s[r.p]? = some c) (h : (mem1 s r).2.co = 0) : r.p < (mem1 s r).2.p ∧ r.co = 0 := by
 unfold mem1 at h ⊢
 simp only at h ⊢
 split at h
 ·
  rename_i h1
  rw [if_pos h1]
  split at h
  ·
   exact absurd h (fail_co (by decide))
  ·
   rename_i h2
   rw [if_neg h2]
   simp only at h ⊢
   split at h
   ·
    exact absurd h (fail_co (by decide))
   ·
    rename_i h3
    rw [if_neg h3]
    obtain ⟨d, hd⟩ : ∃ d, cur s (member s r).1.fwd = some d := by
     cases hx : cur s (member s r).1.fwd with
     | none => exact absurd (Or.inl hx) h2
     | some d => exact ⟨d, rfl⟩
    have hd2 : s[(member s r).1.fwd.p]? = some d := by
     unfold cur at hd
     split at hd
     ·
      exact hd
     ·
      cases hd
    have a1 := member_adv s hd2 h
    have a2 := member_adv s hc (show (member s r).1.co = 0 from a1.2)
    have a3 : (member s r).1.p < (member s r).1.fwd.p := Nat.lt_succ_self _
    exact ⟨by omega, a2.2⟩
 ·
  rename_i h1
  rw [if_neg h1]
  exact member_adv s hc h
theorem mem1_rel {t : rf.T} {r : R} (h : At t r) {c : Nat} (hc : s[r.p]? = some c) (h9 : c ≠ 93) : Rel (rf.member s t).2 (mem1 s r).2 ∧ ((mem1 s r).2.co = 0 → (rf.member s t).1 = (mem1 s r).1) := by
 obtain ⟨g1, g2⟩ := single_rel s h hc h9
 unfold rf.member mem1
 simp only
 rw [← g2]
 by_cases k1 : (member s r).2.2.2 = false
 ·
  rw [if_pos k1, if_neg (fun e => by rw [k1] at e; cases e.1)]
  exact ⟨g1, fun _ => rfl⟩
 ·
  rw [if_neg k1]
  have k2 : (member s r).2.2.2 = true := by cases hb : (member s r).2.2.2 <;> simp_all
  unfold rf.meets
  rw [← cur_nxt s g1]
  by_cases k3 : cur s (member s r).1 = some 45
  ·
   have k8 : (member s r).2.2.2 = true ∧ cur s (member s r).1 = some 45 := ⟨k2, k3⟩
   rw [if_pos k3, if_neg (show ¬ (true, (rf.single s t).2.fwd).1 = false from fun e => by cases e), if_pos k8]
   simp only
   have h0 : (member s r).1.co = 0 := by
    unfold cur at k3
    split at k3
    ·
     assumption
    ·
     cases k3
   have gA : At (rf.single s t).2 (member s r).1 := g1.at (by rw [← g1.1]; exact h0)
   rw [← cur_nxt s gA.fwd.rel]
   cases k4 : cur s (member s r).1.fwd with
   | none =>
    rw [if_pos (Or.inl rfl)]
    exact ⟨by rw [h.2.2]; exact gA.fwd.fail _ 9 (by decide), fun e => absurd e (fail_co (by decide))⟩
   | some d =>
    simp only
    by_cases k5 : d = 93
    ·
     rw [if_pos k5, if_pos (Or.inr (by rw [k5]))]
     exact ⟨by rw [h.2.2]; exact gA.fwd.fail _ 9 (by decide), fun e => absurd e (fail_co (by decide))⟩
    ·
     have k9 : ¬ (some d = none ∨ some d = some 93) := by
      intro e
      rcases e with e | e
      ·
       cases e
      ·
       exact k5 (Option.some.inj e)
     rw [if_neg k5, if_neg k9]
     simp only
     have hd2 : s[(member s r).1.fwd.p]? = some d := by
      unfold cur at k4
      split at k4
      ·
       exact k4
      ·
       cases k4
     obtain ⟨q1, q2⟩ := single_rel s gA.fwd hd2 k5
     rw [← q2]
     by_cases k6 : (member s (member s r).1.fwd).2.2.2 = false ∨ (member s (member s r).1.fwd).2.2.1 < (member s r).2.2.1
     ·
      rw [if_pos k6]
      by_cases k7 : (member s (member s r).1.fwd).1.co = 0
      ·
       rw [if_pos ⟨k7, k6⟩]
       exact ⟨by rw [h.2.2]; exact q1.fail _ 9 (by decide), fun e => absurd e (fail_co (by decide))⟩
      ·
       rw [if_neg (fun e => k7 e.1)]
       refine ⟨?_, fun e => absurd e k7⟩
       have := q1.fail t.p 9 (by decide)
       unfold R.fail at this
       rw [if_neg k7] at this
       exact this
     ·
      rw [if_neg k6, if_neg (fun e => k6 e.2)]
      exact ⟨q1, fun _ => rfl⟩
  ·
   have k8 : ¬ ((member s r).2.2.2 = true ∧ cur s (member s r).1 = some 45) := fun e => k3 e.2
   rw [if_neg k3, if_pos (show (false, (rf.single s t).2).1 = false from rfl), if_neg k8]
   exact ⟨g1, fun _ => rfl⟩
end
end Go.Proofs.Ytbccejlemhgioaa.rr
namespace Go.Proofs.Ytbccejlemhgioaa.rr
open rx
section
variable (s : List Nat)
theorem cur_none {r : R} (h : r.co ≠ 0) : cur s r = none := by unfold cur; rw [if_neg h]
theorem cur_some {r : R} {c : Nat} (h : cur s r = some c) : r.co = 0 ∧ s[r.p]? = some c ∧ r.p < s.length := by
 unfold cur at h
 split at h
 ·
  rename_i h0
  exact ⟨h0, h, (List.getElem?_eq_some_iff.1 h).1⟩
 ·
  cases h
theorem cur_end {r : R} (h : cur s r = none) (h0 : r.co = 0) : s.length ≤ r.p := by
 unfold cur at h
 rw [if_pos h0] at h
 exact List.getElem?_eq_none_iff.1 h
theorem mems_stop (f : Nat) (x : Cls) {r : R} (h : cur s r = none) : mems s f x r = (x, r) := by
 cases f with
 | zero => rfl
 | succ f => unfold mems; rw [h]
theorem mems_mem1 (f : Nat) (x : Cls) {r : R} {c : Nat} (hc : cur s r = some c) (h9 : c ≠ 93) :
  (mems s (f + 1) x r).2 = (mems s f (x.or (mem1 s r).1) (mem1 s r).2).2 ∧ ((mems s (f + 1) x r).2.co = 0 → (mems s (f + 1) x r).1 = (mems s f (x.or (mem1 s r).1) (mem1 s r).2).1) := by
 rw [show mems s (f + 1) x r = (match cur s r with
  | none => (x, r)
  | some c => if c = 93 then (x, r) else
   let m := member s r
   if m.2.2.2 = true ∧ cur s m.1 = some 45 then
    let r2 := m.1.fwd
    if cur s r2 = none ∨ cur s r2 = some 93 then (x, r2.fail r.p 9) else
    let q := member s r2
    let r3 := if q.1.co = 0 ∧ (q.2.2.2 = false ∨ q.2.2.1 < m.2.2.1) then q.1.fail r.p 9 else q.1
    mems s f (x.or (rf.span m.2.2.1 q.2.2.1)) r3
   else mems s f (x.or m.2.1) m.1) from rfl]
 rw [hc]
 simp only
 rw [if_neg h9]
 unfold mem1
 simp only
 by_cases h1 : (member s r).2.2.2 = true ∧ cur s (member s r).1 = some 45
 ·
  rw [if_pos h1, if_pos h1]
  by_cases h2 : cur s (member s r).1.fwd = none ∨ cur s (member s r).1.fwd = some 93
  ·
   rw [if_pos h2, if_pos h2]
   have h3 : ((member s r).1.fwd.fail r.p 9).co ≠ 0 := fail_co (by decide)
   rw [mems_stop s f _ (cur_none s h3)]
   exact ⟨rfl, fun e => absurd e h3⟩
  ·
   rw [if_neg h2, if_neg h2]
   exact ⟨rfl, fun _ => rfl⟩
 ·
  rw [if_neg h1, if_neg h1]
  exact ⟨rfl, fun _ => rfl⟩
theorem fail_id {r : R} (h : r.co ≠ 0) (a : Nat) (co : Int) : r.fail a co = r := by unfold R.fail; rw [if_neg h]
theorem mems_rel (start : Nat) : ∀ (f : Nat) (x y : Cls) (t : rf.T) (r : R), Rel t r → (r.co = 0 → x = y) → 1 ≤ f → (r.co = 0 → s.length + 1 ≤ f + r.p) →
  ((mems s f y r).2.co ≠ 0 → (rf.mems s start f x t).2.2 = false ∧ Rel (rf.mems s start f x t).2.1 (mems s f y r).2) ∧
  ((mems s f y r).2.co = 0 → ((mems s f y r).2.p < s.length → (rf.mems s start f x t).1 = (mems s f y r).1 ∧ (rf.mems s start f x t).2.2 = true ∧ Rel (rf.mems s start f x t).2.1 (mems s f y r).2.fwd) ∧
   (s.length ≤ (mems s f y r).2.p → (rf.mems s start f x t).2.2 = false ∧ Rel (rf.mems s start f x t).2.1 ((mems s f y r).2.fail start 9))) := by
 intro f
 induction f with
 | zero => intro x y t r h hx h1; omega
 | succ f ih =>
  intro x y t r h hx h1 hf
  have hcn := cur_nxt s h
  cases hc : cur s r with
  | none =>
   rw [mems_stop s _ _ hc]
   rw [hc] at hcn
   have e : rf.mems s start (f + 1) x t = (x, t.fail start 9, false) := by
    unfold rf.mems rf.meets
    rw [← hcn]
    rfl
   rw [e]
   refine ⟨fun h0 => ⟨rfl, ?_⟩, fun h0 => ⟨fun hl => ?_, fun _ => ⟨rfl, h.fail _ _ (by decide)⟩⟩⟩
   ·
    have := h.fail start 9 (by decide)
    rw [fail_id h0] at this
    exact this
   ·
    have := cur_end s hc h0
    simp only at hl
    omega
  | some c =>
   obtain ⟨h0, hb, hl⟩ := cur_some s hc
   rw [hc] at hcn
   have hA : At t r := h.at (by rw [← h.1]; exact h0)
   by_cases h9 : c = 93
   ·
    subst h9
    have e1 : mems s (f + 1) y r = (y, r) := by unfold mems; rw [hc]; rfl
    have e : rf.mems s start (f + 1) x t = (x, t.fwd, true) := by
     unfold rf.mems rf.meets
     rw [← hcn]
     rfl
    rw [e, e1]
    exact ⟨fun k => absurd h0 k, fun _ => ⟨fun _ => ⟨hx h0, rfl, hA.fwd.rel⟩, fun k => by simp only at k; omega⟩⟩
   ·
    have e : rf.mems s start (f + 1) x t = rf.mems s start f (x.or (rf.member s t).1) (rf.member s t).2 := by
     unfold rf.mems rf.meets
     rw [← hcn, if_neg (fun k => h9 (Option.some.inj k))]
     cases f <;> rfl
    obtain ⟨m1, m2⟩ := mem1_rel s hA hb h9
    obtain ⟨k1, k2⟩ := mems_mem1 s f y hc h9
    have hi := ih (x.or (rf.member s t).1) (y.or (mem1 s r).1) (rf.member s t).2 (mem1 s r).2 m1 (fun k => by rw [hx h0, m2 k]) (by have := hf h0; omega) (fun k => by have := (mem1_adv s hb k).1; have := hf h0; omega)
    rw [e, k1]
    refine ⟨fun k => hi.1 k, fun k => ⟨fun kl => ?_, fun kl => (hi.2 k).2 kl⟩⟩
    rw [k2 (by rw [k1]; exact k)]
    exact (hi.2 k).1 kl
theorem cls_rel {t : rf.T} {r : R} (h : At t r) : Rel (rf.members s t.p t.fwd).2 (cls s r).1 ∧ ((cls s r).1.co = 0 → Pat.ofCls (rf.members s t.p t.fwd).1 = (cls s r).2) := by
 have hn := cur_nxt s h.fwd.rel
 have hcu : cur s r.fwd = s[r.fwd.p]? := by unfold cur; rw [if_pos (show r.fwd.co = 0 from h.1)]
 unfold rf.members cls
 simp only
 have key : ∀ (b : Bool) (t2 : rf.T) (r2 : R), At t2 r2 →
   Rel (if (rf.mems s t.p (s.length + 1) .zero t2).2.2 = false then ((rf.mems s t.p (s.length + 1) .zero t2).1, (rf.mems s t.p (s.length + 1) .zero t2).2.1) else if (if b = true then rf.oth (rf.mems s t.p (s.length + 1) .zero t2).1 else (rf.mems s t.p (s.length + 1) .zero t2).1) = .zero then (if b = true then rf.oth (rf.mems s t.p (s.length + 1) .zero t2).1 else (rf.mems s t.p (s.length + 1) .zero t2).1, (rf.mems s t.p (s.length + 1) .zero t2).2.1.fail t.p 9) else (if b = true then rf.oth (rf.mems s t.p (s.length + 1) .zero t2).1 else (rf.mems s t.p (s.length + 1) .zero t2).1, (rf.mems s t.p (s.length + 1) .zero t2).2.1)).2
    (if (mems s (s.length + 1) .zero r2).2.co ≠ 0 then ((mems s (s.length + 1) .zero r2).2, Pat.zero) else if s.length ≤ (mems s (s.length + 1) .zero r2).2.p then ((mems s (s.length + 1) .zero r2).2.fail r.p 9, Pat.zero) else if (if b = true then rf.oth (mems s (s.length + 1) .zero r2).1 else (mems s (s.length + 1) .zero r2).1) = .zero then ((mems s (s.length + 1) .zero r2).2.fail r.p 9, Pat.zero) else ((mems s (s.length + 1) .zero r2).2.fwd, Pat.ofCls (if b = true then rf.oth (mems s (s.length + 1) .zero r2).1 else (mems s (s.length + 1) .zero r2).1))).1 ∧
   ((if (mems s (s.length + 1) .zero r2).2.co ≠ 0 then ((mems s (s.length + 1) .zero r2).2, Pat.zero) else if s.length ≤ (mems s (s.length + 1) .zero r2).2.p then ((mems s (s.length + 1) .zero r2).2.fail r.p 9, Pat.zero) else if (if b = true then rf.oth (mems s (s.length + 1) .zero r2).1 else (mems s (s.length + 1) .zero r2).1) = .zero then ((mems s (s.length + 1) .zero r2).2.fail r.p 9, Pat.zero) else ((mems s (s.length + 1) .zero r2).2.fwd, Pat.ofCls (if b = true then rf.oth (mems s (s.length + 1) .zero r2).1 else (mems s (s.length + 1) .zero r2).1))).1.co = 0 →
    Pat.ofCls (if (rf.mems s t.p (s.length + 1) .zero t2).2.2 = false then ((rf.mems s t.p (s.length + 1) .zero t2).1, (rf.mems s t.p (s.length + 1) .zero t2).2.1) else if (if b = true then rf.oth (rf.mems s t.p (s.length + 1) .zero t2).1 else (rf.mems s t.p (s.length + 1) .zero t2).1) = .zero then (if b = true then rf.oth (rf.mems s t.p (s.length + 1) .zero t2).1 else (rf.mems s t.p (s.length + 1) .zero t2).1, (rf.mems s t.p (s.length + 1) .zero t2).2.1.fail t.p 9) else (if b = true then rf.oth (rf.mems s t.p (s.length + 1) .zero t2).1 else (rf.mems s t.p (s.length + 1) .zero t2).1, (rf.mems s t.p (s.length + 1) .zero t2).2.1)).1
    = (if (mems s (s.length + 1) .zero r2).2.co ≠ 0 then ((mems s (s.length + 1) .zero r2).2, Pat.zero) else if s.length ≤ (mems s (s.length + 1) .zero r2).2.p then ((mems s (s.length + 1) .zero r2).2.fail r.p 9, Pat.zero) else if (if b = true then rf.oth (mems s (s.length + 1) .zero r2).1 else (mems s (s.length + 1) .zero r2).1) = .zero then ((mems s (s.length + 1) .zero r2).2.fail r.p 9, Pat.zero) else ((mems s (s.length + 1) .zero r2).2.fwd, Pat.ofCls (if b = true then rf.oth (mems s (s.length + 1) .zero r2).1 else (mems s (s.length + 1) .zero r2).1))).2) := by
  intro b t2 r2 hA
  have hm := mems_rel s t.p (s.length + 1) .zero .zero t2 r2 hA.rel (fun _ => rfl) (by omega) (fun _ => by omega)
  generalize mems s (s.length + 1) .zero r2 = B at hm ⊢
  generalize rf.mems s t.p (s.length + 1) .zero t2 = A at hm ⊢
  by_cases c1 : B.2.co ≠ 0
  ·
   obtain ⟨a1, a2⟩ := hm.1 c1
   rw [if_pos a1, if_pos c1]
   exact ⟨a2, fun e => absurd e c1⟩
  ·
   have c2 : B.2.co = 0 := by simpa using c1
   rw [if_neg c1]
   by_cases c3 : s.length ≤ B.2.p
   ·
    obtain ⟨a1, a2⟩ := (hm.2 c2).2 c3
    rw [if_pos a1, if_pos c3]
    exact ⟨by rw [h.2.2]; exact a2, fun e => absurd e (fail_co (by decide))⟩
   ·
    obtain ⟨a0, a1, a2⟩ := (hm.2 c2).1 (by omega)
    rw [if_neg (show ¬ A.2.2 = false by rw [a1]; decide), if_neg c3, a0]
    by_cases c4 : (if b = true then rf.oth B.1 else B.1) = .zero
    ·
     rw [if_pos c4, if_pos c4]
     refine ⟨?_, fun e => absurd e (fail_co (by decide))⟩
     have hb : At A.2.1 B.2.fwd := a2.at (by rw [← a2.1]; exact c2)
     show Rel (A.2.1.fail t.p 9) (B.2.fail r.p 9)
     unfold rf.T.fail R.fail
     rw [if_pos hb.2.1, if_pos c2, h.2.2]
     exact ⟨rfl, fun e => absurd e (show ¬ (9 : Int) = 0 by decide), fun _ => rfl⟩
    ·
     rw [if_neg c4, if_neg c4]
     exact ⟨a2, fun _ => rfl⟩
 unfold rf.meets
 rw [← hn, hcu]
 by_cases k : s[r.fwd.p]? = some 94
 ·
  rw [if_pos k, if_pos (decide_eq_true k), decide_eq_true k]
  exact key true _ _ h.fwd.fwd
 ·
  have hk := key false _ _ h.fwd
  rw [if_neg k, decide_eq_false k]
  simp only [Bool.false_eq_true, if_false] at hk ⊢
  exact hk
end
end Go.Proofs.Ytbccejlemhgioaa.rr
namespace Go.Proofs.Ytbccejlemhgioaa
open Go Go.RowKit Go.ChangeShapes cl rx
theorem and63 (c : Nat) (hc : c < 256) : bits .and .u8 (c : Int) 63 = ((c % 64 : Nat) : Int) := by
 have h : ∀ c : Fin 256, bits .and .u8 ((c : Nat) : Int) 63 = (((c : Nat) % 64 : Nat) : Int) := by decide +kernel
 exact h ⟨c, hc⟩
end Go.Proofs.Ytbccejlemhgioaa
namespace Go.Proofs.Ytbccejlemhgioaa
open Go Go.RowKit Go.ChangeShapes cl rx
open rf
def RdT (q : Nat) (S : ByteArray) (dp : Int) (t : T) (W : World) : Prop := Rd q S (t.up dp) W
theorem RdT.next {q : Nat} {S : ByteArray} {dp : Int} {t : T} {W W' : World} (h : RdT q S dp t W) (hb : Below W.heap.size W W') : RdT q S dp t W' := Rd.next h hb
theorem RdT.keep {q p : Nat} {S : ByteArray} {dp : Int} {t : T} {W W' : World} (h : RdT q S dp t W) (hk : KX p W W') (hp : q ≠ p) : RdT q S dp t W' := Rd.keep h hk hp
theorem RdT.box {q : Nat} {S : ByteArray} {dp : Int} {t : T} {W : World} (h : RdT q S dp t W) : W.heap[q]? = some (.cells #[.string S, .int .i64 (t.p : Int), .int .i64 dp, .int .i64 t.wr, .int .i64 t.co] 44) := h
def RKT (q : Nat) (S : ByteArray) (dp : Int) (t : T) (w w' : World) : Prop := RdT q S dp t w' ∧ KX q w w'
def RfA (d q : Nat) (S : ByteArray) (dp : Int) (r : Pat × T) (w : World) (e : Ending) (w' : World) : Prop :=
 ∃ c, e = .returned (.agg (List.toArray c)) ∧ Fre w.heap.size w' (fun W => rxR d W W.heap.size c r.1) ∧ RKT q S dp r.2 w w'
theorem up_fail (t : T) (dp a b : Int) : (t.up dp).fail a b = (t.fail a b).up dp := by
 unfold St.fail T.fail T.up
 by_cases h : t.co = 0
 ·
  rw [if_pos h, if_pos h]
 ·
  rw [if_neg h, if_neg h]
theorem up_nxt (s : List Nat) (t : T) (dp : Int) : rx.nxt s (t.up dp) = rf.nxt s t := rfl
theorem up_meets (s : List Nat) (c : Nat) (t : T) (dp : Int) : rx.meets s c (t.up dp) = ((rf.meets s c t).1, (rf.meets s c t).2.up dp) := by
 unfold rx.meets rf.meets
 rw [up_nxt]
 split <;> rfl
theorem rf_fail (q : Nat) (S : ByteArray) (dp : Int) (t : T) (z co : Int) (w : World) (h : RdT q S dp t w) : Calls Try.prog 21 #[.pointer (some ⟨q, 0, none⟩), .int .i64 z, .int .i64 co] w (fun e w' => e = .returned (.tuple #[]) ∧ RKT q S dp (t.fail z co) w w') := by
 refine (rx_fail q S (t.up dp) z co w h).mono fun e w' => ?_
 rw [up_fail]
 exact id
theorem rf_next (q : Nat) (S : ByteArray) (dp : Int) (t : T) (w : World) (h : RdT q S dp t w) (hS : S.size ≤ 60) : Calls Try.prog 35 #[.pointer (some ⟨q, 0, none⟩)] w (fun e w' => e = .returned (.tuple #[.int .u8 (((rf.nxt (kit.bytes S) t).getD 0 : Nat) : Int), .bool (rf.nxt (kit.bytes S) t).isSome]) ∧ Below w.heap.size w w') := rx_next q S (t.up dp) w h hS
theorem rf_meets (q : Nat) (S : ByteArray) (dp : Int) (t : T) (c : Nat) (w : World) (h : RdT q S dp t w) (hS : S.size ≤ 60) : Calls Try.prog 27 #[.pointer (some ⟨q, 0, none⟩), .int .u8 c] w (fun e w' => e = .returned (.bool (rf.meets (kit.bytes S) c t).1) ∧ RKT q S dp (rf.meets (kit.bytes S) c t).2 w w') := by
 refine (rx_meets q S (t.up dp) c w h hS).mono fun e w' => ?_
 rw [up_meets]
 exact id
theorem rf_nxt_lt {S : ByteArray} {t : T} {c : Nat} (h : rf.nxt (kit.bytes S) t = some c) : t.co = 0 ∧ t.p < S.size ∧ c < 256 := by
 obtain ⟨h1, h2, h3⟩ := rf.nxt_some h
 have hl : (kit.bytes S).length = S.size := by simp [kit.bytes]
 exact ⟨h1, by omega, kit.bytes_lt S c (List.mem_of_getElem? h2)⟩
set_option maxRecDepth 100000 in
theorem spB_spc : ∀ c : Nat, c < 256 → spB c = spc c := by decide +kernel
set_option maxRecDepth 100000 in
theorem dig_ix : ∀ c : Nat, c < 256 → Lib.indexByte [48, 49, 50, 51, 52, 53, 54, 55, 56, 57, 97, 98, 99, 100, 101, 102] (c : Int).toNat.toUInt8 = dig c := by decide +kernel
theorem rf_special (c : Nat) (w : World) (hc : c < 256) : Calls Try.prog 49 #[.int .u8 c] w (fun e w' => e = .returned (.bool (spc c)) ∧ w' = w) := by
 rw [← spB_spc c hc]
 exact rx_special c w
theorem rf_digit (c : Nat) (w : World) (hc : c < 256) : Calls Try.prog 59 #[.int .u8 c] w (fun e w' => e = .returned (.int .i64 (dig c)) ∧ w' = w) := by
 have HI := Lib.hid (Try.strings_IndexByte ⟨#[48, 49, 50, 51, 52, 53, 54, 55, 56, 57, 97, 98, 99, 100, 101, 102]⟩ (c : Int) w)
 obtain ⟨z, hz⟩ : ∃ z, z = dig c := ⟨_, rfl⟩
 have HZ : Hid (Calls Try.prog 60 #[.string ⟨#[48, 49, 50, 51, 52, 53, 54, 55, 56, 57, 97, 98, 99, 100, 101, 102]⟩, .int .u8 c] w (fun e w' => e = .returned (.int .i64 z) ∧ w' = w)) := by rw [hz, ← dig_ix c hc]; exact HI.out
 rw [← hz]
 clear HI hz
 go_enter Try.func59, Try.ntmps59
 go_wp2_with fail
 (with_reducible refine HZ.out.mono ?_)
 rintro e3 w3 ⟨rfl, rfl⟩
 go_wp2
 go_ret
 exact ⟨rfl, rfl⟩
end Go.Proofs.Ytbccejlemhgioaa
