/- texts put together: NfBld, NfEdg, NfPth, NfCmp. -/
import Derived.Test.YtmfgplbfojnkdaaNf00
import Derived.Test.YtmfgplbfojnkdaaNf01
import Derived.Test.YtmfgplbfojnkdaaNf02
import Derived.Test.YtmfgplbfojnkdaaNf03
import Derived.Test.YtmfgplbfojnkdaaNf04
import Derived.Test.YtmfgplbfojnkdaaNf05
import Derived.Test.YtmfgplbfojnkdaaNf06
import Derived.Test.YtmfgplbfojnkdaaNf07
import Derived.Test.YtmfgplbfojnkdaaNf08
import Derived.Test.YtmfgplbfojnkdaaNf09
import Derived.Test.YtmfgplbfojnkdaaNf10
import Derived.Test.YtmfgplbfojnkdaaNf11
import Derived.Test.YtmfgplbfojnkdaaNf12
import Derived.Test.YtmfgplbfojnkdaaNf13
import Derived.Test.YtmfgplbfojnkdaaNf14
import Derived.Test.YtmfgplbfojnkdaaNf15
import Derived.Test.YtmfgplbfojnkdaaNf16
import Derived.Test.YtmfgplbfojnkdaaNf17
import Derived.Test.YtmfgplbfojnkdaaNf18
import Derived.Test.YtmfgplbfojnkdaaNf19
import Derived.Test.YtmfgplbfojnkdaaNf20
import Derived.Test.YtmfgplbfojnkdaaNf21
import Derived.Test.YtmfgplbfojnkdaaNf22
import Derived.Test.YtmfgplbfojnkdaaNf23
import Derived.Test.YtmfgplbfojnkdaaNf24
import Derived.Test.YtmfgplbfojnkdaaNb00
namespace Go.Proofs.Ytmfgplbfojnkdaa.nf
open rx
inductive Path (es : List Ed) : Nat → List Nat → Nat → Prop
 | nil (p : Nat) : Path es p [] p
 | eps {e : Ed} {s : List Nat} {q : Nat} (he : e ∈ es) (hf : e.fre = true) (h : Path es e.to s q) : Path es e.fr s q
 | byte {e : Ed} {c : Nat} {s : List Nat} {q : Nat} (he : e ∈ es) (hf : e.fre = false) (hc : e.cl.has c = true) (h : Path es e.to s q) : Path es e.fr (c :: s) q
theorem Path.append {es : List Ed} {p q r : Nat} {s t : List Nat} (h : Path es p s q) (h2 : Path es q t r) : Path es p (s ++ t) r := by
 induction h with
 | nil p => exact h2
 | eps he hf _ ih => exact .eps he hf (ih h2)
 | byte he hf hc _ ih => exact .byte he hf hc (ih h2)
theorem Path.mono {es es' : List Ed} (hs : ∀ e ∈ es, e ∈ es') {p q : Nat} {s : List Nat} (h : Path es p s q) : Path es' p s q := by
 induction h with
 | nil p => exact .nil p
 | eps he hf _ ih => exact .eps (hs _ he) hf ih
 | byte he hf hc _ ih => exact .byte (hs _ he) hf hc ih
inductive Eps (es : List Ed) : Nat → Nat → Prop
 | nil (p : Nat) : Eps es p p
 | step {p : Nat} {e : Ed} (h : Eps es p e.fr) (he : e ∈ es) (hf : e.fre = true) : Eps es p e.to
theorem Eps.front {es : List Ed} {e : Ed} (he : e ∈ es) (hf : e.fre = true) {q : Nat} (h : Eps es e.to q) : Eps es e.fr q := by
 induction h with
 | nil => exact .step (.nil _) he hf
 | step _ he2 hf2 ih => exact .step ih he2 hf2
theorem Eps.path {es : List Ed} {p q r : Nat} {s : List Nat} (h : Eps es p q) (h2 : Path es q s r) : Path es p s r := by
 induction h with
 | nil => exact h2
 | step _ he hf ih => exact ih (.eps he hf h2)
theorem mem_add {out : List Nat} {i x : Nat} : x ∈ add out i ↔ x ∈ out ∨ x = i := by
 unfold add
 split
 ·
  rename_i h
  exact ⟨Or.inl, fun h2 => h2.elim id (fun e => e ▸ h)⟩
 ·
  simp
theorem mem_fold : ∀ (ls out : List Nat) (x : Nat), x ∈ ls.foldl add out ↔ x ∈ out ∨ x ∈ ls
 | [], out, x => by simp
 | i :: ls, out, x => by
  rw [List.foldl_cons, mem_fold ls, mem_add, List.mem_cons]
  constructor
  ·
   rintro ((h | h) | h)
   ·
    exact Or.inl h
   ·
    exact Or.inr (Or.inl h)
   ·
    exact Or.inr (Or.inr h)
  ·
   rintro (h | h | h)
   ·
    exact Or.inl (Or.inl h)
   ·
    exact Or.inl (Or.inr h)
   ·
    exact Or.inr h
theorem mem_step : ∀ (es : List Ed) (out : List Nat) (x : Nat), x ∈ stepE out es ↔ x ∈ out ∨ ∃ e ∈ es, e.fre = true ∧ e.to = x
 | [], out, x => by simp [stepE]
 | e :: es, out, x => by
  show x ∈ stepE (if e.fre then add out e.to else out) es ↔ _
  rw [mem_step es]
  cases hf : e.fre with
  | true =>
   rw [if_pos rfl, mem_add]
   constructor
   ·
    rintro ((h | h) | ⟨d, hd, h⟩)
    ·
     exact Or.inl h
    ·
     exact Or.inr ⟨e, List.mem_cons_self .., hf, h.symm⟩
    ·
     exact Or.inr ⟨d, List.mem_cons_of_mem _ hd, h⟩
   ·
    rintro (h | ⟨d, hd, hdf, h⟩)
    ·
     exact Or.inl (Or.inl h)
    ·
     rcases List.mem_cons.1 hd with rfl | hd
     ·
      exact Or.inl (Or.inr h.symm)
     ·
      exact Or.inr ⟨d, hd, hdf, h⟩
  | false =>
   rw [if_neg (by decide)]
   constructor
   ·
    rintro (h | ⟨d, hd, h⟩)
    ·
     exact Or.inl h
    ·
     exact Or.inr ⟨d, List.mem_cons_of_mem _ hd, h⟩
   ·
    rintro (h | ⟨d, hd, hdf, h⟩)
    ·
     exact Or.inl h
    ·
     rcases List.mem_cons.1 hd with rfl | hd
     ·
      rw [hf] at hdf; cases hdf
     ·
      exact Or.inr ⟨d, hd, hdf, h⟩
theorem step_pre : ∀ (es : List Ed) (out : List Nat), ∃ r, stepE out es = out ++ r
 | [], out => ⟨[], by simp [stepE]⟩
 | e :: es, out => by
  show ∃ r, stepE (if e.fre then add out e.to else out) es = out ++ r
  obtain ⟨r, hr⟩ := step_pre es (if e.fre then add out e.to else out)
  rw [hr]
  split
  ·
   unfold add
   split
   ·
    exact ⟨r, rfl⟩
   ·
    exact ⟨e.to :: r, by simp⟩
  ·
   exact ⟨r, rfl⟩
section
variable {es : List Ed} {sz : Nat}
theorem leav_mem {s : Nat} (hs : s < sz) (e : Ed) : e ∈ (leav es sz).getD s [] ↔ e ∈ es ∧ e.fr = s := by
 rw [leav_get hs]
 unfold leavF
 rw [List.mem_filter, decide_eq_true_eq]
theorem go_spec (hto : ∀ e ∈ es, e.to < sz) (S : Nat → Prop) (hS : ∀ e ∈ es, e.fre = true → S e.fr → S e.to) : ∀ (f k : Nat) (out : List Nat), Ok sz out → k ≤ out.length → sz + 1 ≤ f + k →
  (∀ x ∈ out, S x) → (∀ i, i < k → ∀ e ∈ es, e.fre = true → e.fr = out.getD i 0 → e.to ∈ out) →
  (∀ x ∈ out, x ∈ goF (leav es sz) f k out) ∧ (∀ x ∈ goF (leav es sz) f k out, S x) ∧ (∀ e ∈ es, e.fre = true → e.fr ∈ goF (leav es sz) f k out → e.to ∈ goF (leav es sz) f k out) := by
 intro f
 induction f with
 | zero =>
  intro k out hok hk hf _ _
  have := ok_len hok
  omega
 | succ f ih =>
  intro k out hok hk hf h1 h2
  unfold goF
  by_cases hkl : k < out.length
  ·
   rw [if_pos hkl]
   have hks : out.getD k 0 < sz := hok.2 _ (by rw [List.getD_eq_getElem?_getD, List.getElem?_eq_getElem hkl]; exact List.getElem_mem _)
   obtain ⟨r, hr⟩ := step_pre ((leav es sz).getD (out.getD k 0) []) out
   have hok2 : Ok sz (stepE out ((leav es sz).getD (out.getD k 0) [])) := ok_step _ _ hok (fun e he => hto e ((leav_mem hks e).1 he).1)
   have hget : ∀ i, i < out.length → (stepE out ((leav es sz).getD (out.getD k 0) [])).getD i 0 = out.getD i 0 := fun i hi => by
    rw [hr, List.getD_eq_getElem?_getD, List.getD_eq_getElem?_getD, List.getElem?_append_left hi]
   obtain ⟨a, b, c⟩ := ih (k + 1) (stepE out ((leav es sz).getD (out.getD k 0) [])) hok2 (by rw [hr, List.length_append]; omega) (by omega)
    (fun x hx => by
     rcases (mem_step _ _ _).1 hx with hx | ⟨e, he, hf, rfl⟩
     ·
      exact h1 x hx
     ·
      obtain ⟨hm, hfr⟩ := (leav_mem hks e).1 he
      refine hS e hm hf ?_
      rw [hfr]
      exact h1 _ (by rw [List.getD_eq_getElem?_getD, List.getElem?_eq_getElem hkl]; exact List.getElem_mem _))
    (fun i hi e he hfre hfr => by
     rw [hget i (by omega)] at hfr
     by_cases hik : i < k
     ·
      exact (mem_step _ _ _).2 (Or.inl (h2 i hik e he hfre hfr))
     ·
      have hik2 : i = k := by omega
      rw [hik2] at hfr
      exact (mem_step _ _ _).2 (Or.inr ⟨e, (leav_mem hks e).2 ⟨he, hfr⟩, hfre, rfl⟩))
   exact ⟨fun x hx => a x ((mem_step _ _ _).2 (Or.inl hx)), b, c⟩
  ·
   rw [if_neg hkl]
   refine ⟨fun x hx => hx, h1, fun e he hf hfr => ?_⟩
   obtain ⟨i, hi, hie⟩ := List.mem_iff_getElem.1 hfr
   exact h2 i (by omega) e he hf (by rw [List.getD_eq_getElem?_getD, List.getElem?_eq_getElem hi]; exact hie.symm)
theorem mem_spread (hto : ∀ e ∈ es, e.to < sz) {ls : List Nat} (hls : ∀ x ∈ ls, x < sz) (x : Nat) : x ∈ spread (leav es sz) ls ↔ ∃ p ∈ ls, Eps es p x := by
 have hok : Ok sz (ls.foldl add []) := ok_fold ls [] (ok_nil sz) hls
 obtain ⟨a, b, c⟩ := go_spec hto (fun x => ∃ p ∈ ls, Eps es p x) (fun e he hf ⟨p, hp, h⟩ => ⟨p, hp, .step h he hf⟩) ((leav es sz).length + 1) 0 (ls.foldl add []) hok (Nat.zero_le _) (by rw [leav_len]; omega)
  (fun x hx => ⟨x, by simpa using (mem_fold ls [] x).1 hx, .nil x⟩) (fun i hi => by omega)
 refine ⟨b x, fun ⟨p, hp, h⟩ => ?_⟩
 induction h with
 | nil => exact a _ ((mem_fold ls [] _).2 (Or.inr hp))
 | step hh he hf ih => exact c _ he hf (ih ⟨p, hp, hh⟩)
theorem mem_next (hfr : ∀ e ∈ es, e.fr < sz) {c : Nat} {now : List Nat} (hn : ∀ x ∈ now, x < sz) (x : Nat) : x ∈ nextF (leav es sz) c now ↔ ∃ e ∈ es, e.fr ∈ now ∧ e.fre = false ∧ e.cl.has c = true ∧ e.to = x := by
 unfold nextF nextR
 rw [List.mem_flatMap]
 constructor
 ·
  rintro ⟨s, hs, hx⟩
  obtain ⟨e, he, rfl⟩ := List.mem_map.1 hx
  obtain ⟨he, hb⟩ := List.mem_filter.1 he
  obtain ⟨hm, rfl⟩ := (leav_mem (hn s hs) e).1 he
  rw [Bool.and_eq_true, Bool.not_eq_true'] at hb
  exact ⟨e, hm, hs, hb.1, hb.2, rfl⟩
 ·
  rintro ⟨e, he, hs, h1, h2, rfl⟩
  refine ⟨e.fr, hs, List.mem_map.2 ⟨e, List.mem_filter.2 ⟨(leav_mem (hfr e he) e).2 ⟨he, rfl⟩, ?_⟩, rfl⟩⟩
  rw [h1, h2]; rfl
theorem path_nil {p q : Nat} : ∀ {t : List Nat}, Path es p t q → t = [] → Eps es p q := by
 intro t h
 induction h with
 | nil p => intro _; exact .nil p
 | eps he hf _ ih => intro ht; exact Eps.front he hf (ih ht)
 | byte _ _ _ _ _ => intro ht; cases ht
theorem path_cons {p q c : Nat} {s : List Nat} : ∀ {t : List Nat}, Path es p t q → t = c :: s → ∃ e ∈ es, Eps es p e.fr ∧ e.fre = false ∧ e.cl.has c = true ∧ Path es e.to s q := by
 intro t h
 induction h with
 | nil p => intro ht; cases ht
 | eps he hf _ ih =>
  intro ht
  obtain ⟨d, hd, h1, h2⟩ := ih ht
  exact ⟨d, hd, Eps.front he hf h1, h2⟩
 | @byte e c' s' q he hf hc h _ =>
  intro ht
  cases ht
  exact ⟨e, he, .nil _, hf, hc, h⟩
theorem run_path (hfr : ∀ e ∈ es, e.fr < sz) (hto : ∀ e ∈ es, e.to < sz) (fi : Nat) : ∀ (s : List Nat) (ls : List Nat), (∀ x ∈ ls, x < sz) → (runF (leav es sz) fi s (spread (leav es sz) ls) = true ↔ ∃ p ∈ ls, Path es p s fi) := by
 intro s
 induction s with
 | nil =>
  intro ls hls
  unfold runF
  rw [decide_eq_true_eq, mem_spread hto hls]
  exact ⟨fun ⟨p, hp, h⟩ => ⟨p, hp, h.path (.nil _)⟩, fun ⟨p, hp, h⟩ => ⟨p, hp, path_nil h rfl⟩⟩
 | cons c s ih =>
  intro ls hls
  have hnow := (ok_spread (leav_to hto) hls).2
  unfold runF
  rw [ih _ (nextF_to (leav_to hto) _)]
  constructor
  ·
   rintro ⟨p, hp, h⟩
   obtain ⟨e, he, h1, h2, h3, rfl⟩ := (mem_next hfr hnow p).1 hp
   obtain ⟨p0, hp0, h4⟩ := (mem_spread hto hls _).1 h1
   exact ⟨p0, hp0, h4.path (.byte he h2 h3 h)⟩
  ·
   rintro ⟨p, hp, h⟩
   obtain ⟨e, he, h1, h2, h3, h4⟩ := path_cons h rfl
   exact ⟨e.to, (mem_next hfr hnow _).2 ⟨e, he, (mem_spread hto hls _).2 ⟨p, hp, h1⟩, h2, h3, rfl⟩, h4⟩
theorem run_iff {st fi : Nat} (h : Rgt sz st fi es) (s : List Nat) : run sz st fi es s = true ↔ Path es st s fi := by
 unfold run
 rw [run_path h.fr h.to fi s [st] (fun x hx => by rw [List.mem_singleton.1 hx]; exact h.st)]
 exact ⟨fun ⟨p, hp, h⟩ => by rw [List.mem_singleton.1 hp] at h; exact h, fun h => ⟨st, List.mem_singleton.2 rfl, h⟩⟩
end
end Go.Proofs.Ytmfgplbfojnkdaa.nf
namespace Go.Proofs.Ytmfgplbfojnkdaa.nf
open rx
def sh (k : Nat) (e : Ed) : Ed := ⟨e.fr + k, e.to + k, e.fre, e.cl⟩
def Lk (k : Nat) (c c' b b' : Bd) : Prop := ∃ n l, c' = ⟨c.sz + n, c.es ++ l⟩ ∧ b' = ⟨b.sz + n, b.es ++ l.map (sh k)⟩
theorem Lk.refl (k : Nat) (c b : Bd) : Lk k c c b b := ⟨0, [], by simp, by simp⟩
theorem Lk.trans {k : Nat} {c c' c'' b b' b'' : Bd} (h : Lk k c c' b b') (h2 : Lk k c' c'' b' b'') : Lk k c c'' b b'' := by
 obtain ⟨n, l, rfl, rfl⟩ := h
 obtain ⟨m, r, rfl, rfl⟩ := h2
 exact ⟨n + m, l ++ r, by simp [Nat.add_assoc], by simp [Nat.add_assoc]⟩
theorem Lk.free {k f t : Nat} {c c' b b' : Bd} (h : Lk k c c' b b') : Lk k c (c'.free f t) b (b'.free (f + k) (t + k)) := by
 obtain ⟨n, l, rfl, rfl⟩ := h
 exact ⟨n, l ++ [⟨f, t, true, .zero⟩], by simp [Bd.free], by simp [Bd.free, sh]⟩
theorem Lk.sz {k : Nat} {c c' b b' : Bd} (h : Lk k c c' b b') (hb : b.sz = c.sz + k) : b'.sz = c'.sz + k := by
 obtain ⟨n, l, rfl, rfl⟩ := h
 show b.sz + n = c.sz + n + k
 omega
theorem not_full {b : Bd} (h : b.sz ≤ 400) : b.full = false := decide_eq_false (by omega)
def OLk (k : Nat) (O : Pat → Bd → Bd) : Prop := ∀ x c b, b.sz = c.sz + k → b.sz ≤ 400 → (O x b).sz ≤ 400 → Lk k c (O x c) b (O x b)
theorem then_lk {k : Nat} {O : Pat → Bd → Bd} (hL : ∀ x b, b.sz ≤ 400 → Lay b (O x b)) (hO : OLk k O) : ∀ (ks : List Pat) (e : Nat) (c b : Bd), b.sz = c.sz + k → (thenF O ks (e + k) b).2.sz ≤ 400 →
  Lk k c (thenF O ks e c).2 b (thenF O ks (e + k) b).2 ∧ (thenF O ks (e + k) b).1 = (thenF O ks e c).1 + k
 | [], _, c, b, _, _ => ⟨Lk.refl k c b, rfl⟩
 | x :: ks, e, c, b, hb, h => by
  unfold thenF at h ⊢
  cases hf : b.full with
  | true =>
   rw [hf, if_pos rfl] at h
   rw [not_full h] at hf; cases hf
  | false =>
   have h4 := full_no hf
   rw [hf, if_neg (by decide)] at h
   have hst := then_stp hL ks (b.sz + 1) ((O x b).free (e + k) b.sz) (hL x b h4).top
   have hox : (O x b).sz ≤ 400 := Nat.le_trans hst.sz h
   have hl := hO x c b hb h4 hox
   have hcf : c.full = false := not_full (by omega)
   rw [hcf, if_neg (by decide), if_neg (by decide)]
   have hl2 : Lk k c ((O x c).free e c.sz) b ((O x b).free (e + k) b.sz) := by
    have := hl.free (f := e) (t := c.sz)
    rwa [← hb] at this
   have e1 : b.sz + 1 = c.sz + 1 + k := by omega
   rw [e1] at h ⊢
   obtain ⟨a1, a2⟩ := then_lk hL hO ks (c.sz + 1) ((O x c).free e c.sz) ((O x b).free (e + k) b.sz) (hl2.sz hb) h
   exact ⟨hl2.trans a1, a2⟩
theorem or_lk {k s f : Nat} {O : Pat → Bd → Bd} (hL : ∀ x b, b.sz ≤ 400 → Lay b (O x b)) (hO : OLk k O) : ∀ (ks : List Pat) (c b : Bd), b.sz = c.sz + k → (orF O (s + k) (f + k) ks b).sz ≤ 400 →
  Lk k c (orF O s f ks c) b (orF O (s + k) (f + k) ks b)
 | [], c, b, _, _ => Lk.refl k c b
 | x :: ks, c, b, hb, h => by
  unfold orF at h ⊢
  cases hf : b.full with
  | true =>
   rw [hf, if_pos rfl] at h
   rw [not_full h] at hf; cases hf
  | false =>
   have h4 := full_no hf
   rw [hf, if_neg (by decide)] at h
   have hst := or_stp hL (s + k) (f + k) ks (((O x b).free (s + k) b.sz).free (b.sz + 1) (f + k)) (hL x b h4).top
   have hox : (O x b).sz ≤ 400 := Nat.le_trans hst.sz h
   have hl := hO x c b hb h4 hox
   have hcf : c.full = false := not_full (by omega)
   rw [hcf, if_neg (by decide), if_neg (by decide)]
   have hl2 : Lk k c (((O x c).free s c.sz).free (c.sz + 1) f) b (((O x b).free (s + k) b.sz).free (b.sz + 1) (f + k)) := by
    have := (hl.free (f := s) (t := c.sz)).free (f := c.sz + 1) (t := f)
    rwa [← hb, show c.sz + 1 + k = b.sz + 1 by omega] at this
   exact hl2.trans (or_lk hL hO ks _ _ (hl2.sz hb) h)
theorem one_lk {k : Nat} {O : Bd → Bd} {c b : Bd} (hl : Lk k c (O c) b (O b)) (hb : b.sz = c.sz + k) (mn mx : Int) (f n i e : Nat) : Lk k c (oneF O mn mx f n i e c) b (oneF O mn mx (f + k) n i (e + k) b) := by
 have h1 : Lk k c ((O c).free e c.sz) b ((O b).free (e + k) b.sz) := by
  have := hl.free (f := e) (t := c.sz)
  rwa [← hb] at this
 have h2 : Lk k c (if mn ≤ (i : Int) then ((O c).free e c.sz).free e f else (O c).free e c.sz) b (if mn ≤ (i : Int) then ((O b).free (e + k) b.sz).free (e + k) (f + k) else (O b).free (e + k) b.sz) := by
  split
  ·
   exact h1.free
  ·
   exact h1
 unfold oneF
 simp only
 split
 ·
  have := h2.free (f := c.sz + 1) (t := c.sz)
  rwa [← hb, show c.sz + 1 + k = b.sz + 1 by omega] at this
 ·
  exact h2
theorem many_lk {k : Nat} {O : Bd → Bd} (hL : ∀ b, b.sz ≤ 400 → Lay b (O b)) (hO : ∀ c b, b.sz = c.sz + k → b.sz ≤ 400 → (O b).sz ≤ 400 → Lk k c (O c) b (O b)) (mn mx : Int) (f : Nat) : ∀ (n i e : Nat) (c b : Bd), b.sz = c.sz + k → (manyF O mn mx (f + k) n i (e + k) b).2.sz ≤ 400 →
  Lk k c (manyF O mn mx f n i e c).2 b (manyF O mn mx (f + k) n i (e + k) b).2 ∧ (manyF O mn mx (f + k) n i (e + k) b).1 = (manyF O mn mx f n i e c).1 + k
 | 0, _, _, c, b, _, _ => ⟨Lk.refl k c b, rfl⟩
 | n + 1, i, e, c, b, hb, h => by
  unfold manyF at h ⊢
  cases hf : b.full with
  | true =>
   rw [hf, if_pos rfl] at h
   rw [not_full h] at hf; cases hf
  | false =>
   have h4 := full_no hf
   rw [hf, if_neg (by decide)] at h
   have ho := (hL b h4).one rfl mn mx (f + k) n i (e + k)
   have hos : (oneF O mn mx (f + k) n i (e + k) b).sz = (O b).sz := by unfold oneF; simp only; split <;> split <;> rfl
   have hst := many_stp hL mn mx (f + k) n (i + 1) (b.sz + 1) _ ho.top
   have hox : (O b).sz ≤ 400 := by rw [← hos]; exact Nat.le_trans hst.sz h
   have hl2 := one_lk (hO c b hb h4 hox) hb mn mx f n i e
   have hcf : c.full = false := not_full (by omega)
   rw [hcf, if_neg (by decide), if_neg (by decide)]
   have e1 : b.sz + 1 = c.sz + 1 + k := by omega
   rw [e1] at h ⊢
   obtain ⟨a1, a2⟩ := many_lk hL hO mn mx f n (i + 1) (c.sz + 1) _ _ (hl2.sz hb) h
   exact ⟨hl2.trans a1, a2⟩
theorem of_lk (k : Nat) : ∀ d, OLk k (of d)
 | 0 => fun x c b hb _ _ => ⟨2, [], by simp [of], by simp [of]⟩
 | d + 1 => fun x c b hb h4 h => by
  have hO := of_lk k d
  have hL := fun (y : Pat) (b : Bd) (hb : b.sz ≤ 400) => of_lay d y b hb
  have h0 : Lk k c ⟨c.sz + 2, c.es⟩ b ⟨b.sz + 2, b.es⟩ := ⟨2, [], by simp, by simp⟩
  have hb2 : b.sz + 2 = c.sz + 2 + k := by omega
  unfold of at h ⊢
  simp only at h ⊢
  have hbb : b.sz = c.sz + k := hb
  split
  ·
   have := h0.free (f := c.sz) (t := c.sz + 1)
   rwa [← hb, show c.sz + 1 + k = b.sz + 1 by omega] at this
  ·
   rename_i k1
   rw [if_neg k1] at h
   split
   ·
    exact ⟨2, [⟨c.sz, c.sz + 1, false, x.cl⟩], rfl, by simp [sh]; omega⟩
   ·
    rename_i k2
    rw [if_neg k2] at h
    split
    ·
     rename_i k3
     rw [if_pos k3] at h
     have h' : (thenF (of d) x.ks b.sz ⟨b.sz + 2, b.es⟩).2.sz ≤ 400 := h
     have e2 : thenF (of d) x.ks b.sz ⟨b.sz + 2, b.es⟩ = thenF (of d) x.ks (c.sz + k) ⟨b.sz + 2, b.es⟩ := by rw [hb]
     rw [e2] at h' ⊢
     obtain ⟨a1, a2⟩ := then_lk hL hO x.ks c.sz ⟨c.sz + 2, c.es⟩ ⟨b.sz + 2, b.es⟩ hb2 h'
     have := (h0.trans a1).free (f := (thenF (of d) x.ks c.sz ⟨c.sz + 2, c.es⟩).1) (t := c.sz + 1)
     rwa [← a2, show c.sz + 1 + k = b.sz + 1 by omega] at this
    ·
     rename_i k3
     rw [if_neg k3] at h
     split
     ·
      rename_i k4
      rw [if_pos k4] at h
      have e2 : orF (of d) b.sz (b.sz + 1) x.ks ⟨b.sz + 2, b.es⟩ = orF (of d) (c.sz + k) (c.sz + 1 + k) x.ks ⟨b.sz + 2, b.es⟩ := by rw [hb, show c.sz + 1 + k = c.sz + k + 1 by omega]
      rw [e2] at h ⊢
      exact h0.trans (or_lk hL hO x.ks ⟨c.sz + 2, c.es⟩ ⟨b.sz + 2, b.es⟩ hb2 h)
     ·
      rename_i k4
      rw [if_neg k4] at h
      split
      ·
       rename_i k5
       rw [if_pos k5] at h
       have h' : (manyF (of d (x.ks.getD 0 default)) x.mn x.mx (b.sz + 1) (times x.mn x.mx) 0 b.sz ⟨b.sz + 2, b.es⟩).2.sz ≤ 400 := h
       have e2 : manyF (of d (x.ks.getD 0 default)) x.mn x.mx (b.sz + 1) (times x.mn x.mx) 0 b.sz ⟨b.sz + 2, b.es⟩ = manyF (of d (x.ks.getD 0 default)) x.mn x.mx (c.sz + 1 + k) (times x.mn x.mx) 0 (c.sz + k) ⟨b.sz + 2, b.es⟩ := by rw [hb, show c.sz + 1 + k = c.sz + k + 1 by omega]
       rw [e2] at h' ⊢
       obtain ⟨a1, a2⟩ := many_lk (hL (x.ks.getD 0 default)) (hO (x.ks.getD 0 default)) x.mn x.mx (c.sz + 1) (times x.mn x.mx) 0 c.sz ⟨c.sz + 2, c.es⟩ ⟨b.sz + 2, b.es⟩ hb2 h'
       have := (h0.trans a1).free (f := (manyF (of d (x.ks.getD 0 default)) x.mn x.mx (c.sz + 1) (times x.mn x.mx) 0 c.sz ⟨c.sz + 2, c.es⟩).1) (t := c.sz + 1)
       rw [← a2] at this
       rw [show b.sz + 1 = c.sz + 1 + k by omega]
       exact this
      ·
       exact h0
end Go.Proofs.Ytmfgplbfojnkdaa.nf

