/- texts put together: NfOrR, Close, RxArgs, ArgsRx, ArgsRxO, NfCls, RfMath. -/
import Derived.Carry
import Derived.ChangeArms
import Derived.Deep.DeepHandedRow
import Derived.Deep.Slices
import Derived.JoinedCond
import Derived.Laws.IdiomArrays
import Derived.Lib.LaidTab
import Derived.OpenShut
import Derived.ProofKit
import Derived.Test.YtmfgplbfojnkdaaRows
import Derived.WalkKit
import Derived.WideShapes
import Derived.Test.YtmfgplbfojnkdaaNf00
import Derived.Test.YtmfgplbfojnkdaaNf01
import Derived.Test.YtmfgplbfojnkdaaNf02
import Derived.Test.YtmfgplbfojnkdaaNf03
import Derived.Test.YtmfgplbfojnkdaaNf04
import Derived.Test.YtmfgplbfojnkdaaNf05
import Derived.Test.YtmfgplbfojnkdaaNf06
import Derived.Test.YtmfgplbfojnkdaaNf07
import Derived.Test.YtmfgplbfojnkdaaNf08
import Derived.Test.YtmfgplbfojnkdaaNf09
import Derived.Test.YtmfgplbfojnkdaaNf10
import Derived.Test.YtmfgplbfojnkdaaNf11
import Derived.Test.YtmfgplbfojnkdaaNf12
import Derived.Test.YtmfgplbfojnkdaaNf13
import Derived.Test.YtmfgplbfojnkdaaNf14
import Derived.Test.YtmfgplbfojnkdaaNf15
import Derived.Test.YtmfgplbfojnkdaaNf16
import Derived.Test.YtmfgplbfojnkdaaNf17
import Derived.Test.YtmfgplbfojnkdaaNf18
import Derived.Test.YtmfgplbfojnkdaaNf19
import Derived.Test.YtmfgplbfojnkdaaNf20
import Derived.Test.YtmfgplbfojnkdaaNf21
import Derived.Test.YtmfgplbfojnkdaaNf22
import Derived.Test.YtmfgplbfojnkdaaNf23
import Derived.Test.YtmfgplbfojnkdaaNf24
import Derived.Test.YtmfgplbfojnkdaaNb00
import Derived.Test.YtmfgplbfojnkdaaNb09
namespace Go.Proofs.Ytmfgplbfojnkdaa.nf
open rx
theorem path_sh {k : Nat} {E : List Ed} {p q : Nat} {s : List Nat} (h : Path E p s q) : Path (E.map (sh k)) (p + k) s (q + k) := by
 induction h with
 | nil p => exact .nil _
 | @eps e s q he hf _ ih => exact Path.eps (e := sh k e) (List.mem_map.2 ⟨e, he, rfl⟩) hf ih
 | @byte e c s q he hf hc _ ih => exact Path.byte (e := sh k e) (List.mem_map.2 ⟨e, he, rfl⟩) hf hc ih
theorem path_un {k : Nat} {E : List Ed} {p' q' : Nat} {s : List Nat} (h : Path (E.map (sh k)) p' s q') : ∀ p q, p' = p + k → q' = q + k → Path E p s q := by
 induction h with
 | nil p' =>
  intro p q h1 h2
  have : p = q := by omega
  exact this ▸ .nil p
 | @eps e s q' he hf _ ih =>
  intro p q h1 h2
  obtain ⟨e0, h0, rfl⟩ := List.mem_map.1 he
  have h3 : e0.fr = p := by have : e0.fr + k = p + k := h1; omega
  exact h3 ▸ Path.eps h0 hf (ih _ q rfl h2)
 | @byte e c s q' he hf hc _ ih =>
  intro p q h1 h2
  obtain ⟨e0, h0, rfl⟩ := List.mem_map.1 he
  have h3 : e0.fr = p := by have : e0.fr + k = p + k := h1; omega
  exact h3 ▸ Path.byte h0 hf hc (ih _ q rfl h2)
theorem path_exit {F G : List Ed} {lo hi a b : Nat} (hF : ∀ e ∈ F, lo ≤ e.fr → e.fr < hi → (e ∈ G ∧ lo ≤ e.to ∧ e.to < hi) ∨ (e.fr = a ∧ e.fre = true ∧ e.to = b)) {p q : Nat} {s : List Nat} (h : Path F p s q) :
  lo ≤ p → p < hi → ¬ (lo ≤ q ∧ q < hi) → ∃ s1 s2, s = s1 ++ s2 ∧ Path G p s1 a ∧ Path F b s2 q := by
 induction h with
 | nil p => intro h1 h2 h3; exact absurd ⟨h1, h2⟩ h3
 | @eps e s q he hf hp ih =>
  intro h1 h2 h3
  rcases hF e he h1 h2 with ⟨g1, g2, g3⟩ | ⟨g1, _, g3⟩
  ·
   obtain ⟨s1, s2, rfl, h4, h5⟩ := ih g2 g3 h3
   exact ⟨s1, s2, rfl, .eps g1 hf h4, h5⟩
  ·
   exact ⟨[], s, rfl, g1 ▸ .nil _, g3 ▸ hp⟩
 | @byte e c s q he hf hc hp ih =>
  intro h1 h2 h3
  rcases hF e he h1 h2 with ⟨g1, g2, g3⟩ | ⟨_, g2, _⟩
  ·
   obtain ⟨s1, s2, rfl, h4, h5⟩ := ih g2 g3 h3
   exact ⟨c :: s1, s2, rfl, .byte g1 hf hc h4, h5⟩
  ·
   rw [hf] at g2; cases g2
theorem path_end {F : List Ed} {p q : Nat} {s : List Nat} (h : Path F p s q) : (∀ e ∈ F, e.fr ≠ p) → s = [] ∧ p = q := by
 cases h with
 | nil => intro _; exact ⟨rfl, rfl⟩
 | eps he hf _ => intro hn; exact absurd rfl (hn _ he)
 | byte he hf hc _ => intro hn; exact absurd rfl (hn _ he)
theorem path_first {F : List Ed} {p q : Nat} {s : List Nat} (h : Path F p s q) (hpq : p ≠ q) (hn : ∀ e ∈ F, e.fr = p → e.fre = true) : ∃ e ∈ F, e.fr = p ∧ e.fre = true ∧ Path F e.to s q := by
 cases h with
 | nil => exact absurd rfl hpq
 | @eps e _ _ he hf h => exact ⟨e, he, rfl, hf, h⟩
 | @byte e c _ _ he hf hc h => exact absurd (hn e he rfl) (by rw [hf]; decide)
theorem code_ok {d : Nat} {x : Pat} (h : code d x = 0) : (of d x ⟨0, []⟩).sz ≤ 400 ∧ made d x = of d x ⟨0, []⟩ := by
 refine ⟨?_, by unfold made; rw [if_pos h]⟩
 unfold code at h
 split at h
 ·
  cases h
 ·
  split at h
  ·
   cases h
  ·
   rename_i h2
   exact full_no (by simpa using h2)
def runs (d : Nat) (x : Pat) (s : List Nat) : Bool := run (made d x).sz 0 1 (made d x).es s
theorem runs_iff {d : Nat} {x : Pat} (h : code d x = 0) (s : List Nat) : runs d x s = true ↔ Path (of d x ⟨0, []⟩).es 0 s 1 := by
 unfold runs
 rw [run_iff (made_rgt h), (code_ok h).2]
theorem of_at {d k : Nat} {x : Pat} {b : Bd} (hb : b.sz = k) (h4 : k ≤ 400) (h : (of d x b).sz ≤ 400) : of d x b = ⟨k + (of d x ⟨0, []⟩).sz, b.es ++ (of d x ⟨0, []⟩).es.map (sh k)⟩ := by
 obtain ⟨n, l, h1, h2⟩ := of_lk k d x ⟨0, []⟩ b (by rw [hb, Nat.zero_add]) (by omega) h
 rw [h2, h1, hb]
 simp
theorem of_eg {d : Nat} {x : Pat} : 2 ≤ (of d x ⟨0, []⟩).sz ∧ ∀ e ∈ (of d x ⟨0, []⟩).es, Eg 0 1 (of d x ⟨0, []⟩).sz e := by
 have h1 := of_lay d x ⟨0, []⟩ (by show 0 ≤ 400; omega)
 obtain ⟨l, h2, h3⟩ := (of_new d x ⟨0, []⟩ (by show 0 ≤ 400; omega)).new
 refine ⟨by have := h1.sz; simpa using this, ?_⟩
 rw [h2]
 simpa using h3
section
variable {L M : List Ed} {n m : Nat}
theorem or_path (hn : 2 ≤ n) (hm : 2 ≤ m) (hL : ∀ e ∈ L, Eg 0 1 n e) (hM : ∀ e ∈ M, Eg 0 1 m e) (s : List Nat) :
  Path (L.map (sh 2) ++ [⟨0, 2, true, .zero⟩] ++ [⟨3, 1, true, .zero⟩] ++ M.map (sh (2 + n)) ++ [⟨0, 2 + n, true, .zero⟩] ++ [⟨2 + n + 1, 1, true, .zero⟩]) 0 s 1 ↔ Path L 0 s 1 ∨ Path M 0 s 1 := by
 generalize hF : L.map (sh 2) ++ [(⟨0, 2, true, .zero⟩ : Ed)] ++ [⟨3, 1, true, .zero⟩] ++ M.map (sh (2 + n)) ++ [⟨0, 2 + n, true, .zero⟩] ++ [⟨2 + n + 1, 1, true, .zero⟩] = F
 have mem : ∀ e, e ∈ F ↔ (∃ d ∈ L, sh 2 d = e) ∨ e = ⟨0, 2, true, .zero⟩ ∨ e = ⟨3, 1, true, .zero⟩ ∨ (∃ d ∈ M, sh (2 + n) d = e) ∨ e = ⟨0, 2 + n, true, .zero⟩ ∨ e = ⟨2 + n + 1, 1, true, .zero⟩ := by
  intro e
  rw [← hF]
  simp only [List.mem_append, List.mem_map, List.mem_singleton, or_assoc]
 have no1 : ∀ e ∈ F, e.fr ≠ 1 := by
  intro e he
  rcases (mem e).1 he with ⟨d, hd, rfl⟩ | rfl | rfl | ⟨d, hd, rfl⟩ | rfl | rfl
  ·
   show d.fr + 2 ≠ 1; omega
  ·
   show 0 ≠ 1; omega
  ·
   show 3 ≠ 1; omega
  ·
   show d.fr + (2 + n) ≠ 1; omega
  ·
   show 0 ≠ 1; omega
  ·
   show 2 + n + 1 ≠ 1; omega
 constructor
 ·
  intro h
  obtain ⟨e, he, h0, hf, h2⟩ := path_first h (by omega) (by
   intro e he h0
   rcases (mem e).1 he with ⟨d, hd, rfl⟩ | rfl | rfl | ⟨d, hd, rfl⟩ | rfl | rfl
   ·
    have h0 : d.fr + 2 = 0 := h0; omega
   ·
    rfl
   ·
    rfl
   ·
    have h0 : d.fr + (2 + n) = 0 := h0; omega
   ·
    rfl
   ·
    rfl)
  have h3 : e.to = 2 ∨ e.to = 2 + n := by
   rcases (mem e).1 he with ⟨d, hd, rfl⟩ | rfl | rfl | ⟨d, hd, rfl⟩ | rfl | rfl
   ·
    have h0 : d.fr + 2 = 0 := h0; omega
   ·
    exact Or.inl rfl
   ·
    cases h0
   ·
    have h0 : d.fr + (2 + n) = 0 := h0; omega
   ·
    exact Or.inr rfl
   ·
    have h0 : 2 + n + 1 = 0 := h0; omega
  rcases h3 with h3 | h3
  ·
   rw [h3] at h2
   obtain ⟨s1, s2, rfl, g1, g2⟩ := path_exit (G := L.map (sh 2)) (lo := 2) (hi := 2 + n) (a := 3) (b := 1) (by
    intro e he h1 h2
    rcases (mem e).1 he with ⟨d, hd, rfl⟩ | rfl | rfl | ⟨d, hd, rfl⟩ | rfl | rfl
    ·
     have := (hL d hd).tom
     exact Or.inl ⟨List.mem_map.2 ⟨d, hd, rfl⟩, by show 2 ≤ d.to + 2; omega, by show d.to + 2 < 2 + n; omega⟩
    ·
     have h1 : 2 ≤ 0 := h1; omega
    ·
     exact Or.inr ⟨rfl, rfl, rfl⟩
    ·
     have h2 : d.fr + (2 + n) < 2 + n := h2; omega
    ·
     have h1 : 2 ≤ 0 := h1; omega
    ·
     have h2 : 2 + n + 1 < 2 + n := h2; omega) h2 (by omega) (by omega) (by omega)
   rw [(path_end g2 no1).1, List.append_nil]
   exact Or.inl (path_un g1 0 1 rfl rfl)
  ·
   rw [h3] at h2
   obtain ⟨s1, s2, rfl, g1, g2⟩ := path_exit (G := M.map (sh (2 + n))) (lo := 2 + n) (hi := 2 + n + m) (a := 2 + n + 1) (b := 1) (by
    intro e he h1 h2
    rcases (mem e).1 he with ⟨d, hd, rfl⟩ | rfl | rfl | ⟨d, hd, rfl⟩ | rfl | rfl
    ·
     have := (hL d hd).frm
     have h1 : 2 + n ≤ d.fr + 2 := h1; omega
    ·
     have h1 : 2 + n ≤ 0 := h1; omega
    ·
     have h1 : 2 + n ≤ 3 := h1; omega
    ·
     have := (hM d hd).tom
     exact Or.inl ⟨List.mem_map.2 ⟨d, hd, rfl⟩, by show 2 + n ≤ d.to + (2 + n); omega, by show d.to + (2 + n) < 2 + n + m; omega⟩
    ·
     have h1 : 2 + n ≤ 0 := h1; omega
    ·
     exact Or.inr ⟨rfl, rfl, rfl⟩) h2 (by omega) (by omega) (by omega)
   rw [(path_end g2 no1).1, List.append_nil]
   exact Or.inr (path_un g1 0 1 (by omega) (by omega))
 ·
  rintro (h | h)
  ·
   have h1 : Path F 2 s 3 := Path.mono (fun e he => (mem e).2 (Or.inl (List.mem_map.1 he))) (path_sh (k := 2) h)
   have h2 : Path F 2 (s ++ []) 1 := h1.append (Path.eps (e := ⟨3, 1, true, .zero⟩) ((mem _).2 (Or.inr (Or.inr (Or.inl rfl)))) rfl (.nil 1))
   rw [List.append_nil] at h2
   exact Path.eps (e := ⟨0, 2, true, .zero⟩) ((mem _).2 (Or.inr (Or.inl rfl))) rfl h2
  ·
   have h1 : Path F (0 + (2 + n)) s (1 + (2 + n)) := Path.mono (fun e he => (mem e).2 (Or.inr (Or.inr (Or.inr (Or.inl (List.mem_map.1 he)))))) (path_sh (k := 2 + n) h)
   rw [Nat.zero_add, Nat.add_comm 1 (2 + n)] at h1
   have h2 : Path F (2 + n) (s ++ []) 1 := h1.append (Path.eps (e := ⟨2 + n + 1, 1, true, .zero⟩) ((mem _).2 (Or.inr (Or.inr (Or.inr (Or.inr (Or.inr rfl)))))) rfl (.nil 1))
   rw [List.append_nil] at h2
   exact Path.eps (e := ⟨0, 2 + n, true, .zero⟩) ((mem _).2 (Or.inr (Or.inr (Or.inr (Or.inr (Or.inl rfl)))))) rfl h2
theorem then_path (hn : 2 ≤ n) (hm : 2 ≤ m) (hL : ∀ e ∈ L, Eg 0 1 n e) (hM : ∀ e ∈ M, Eg 0 1 m e) (s : List Nat) :
  Path (L.map (sh 2) ++ [⟨0, 2, true, .zero⟩] ++ M.map (sh (2 + n)) ++ [⟨3, 2 + n, true, .zero⟩] ++ [⟨2 + n + 1, 1, true, .zero⟩]) 0 s 1 ↔ ∃ s1 s2, s = s1 ++ s2 ∧ Path L 0 s1 1 ∧ Path M 0 s2 1 := by
 generalize hF : L.map (sh 2) ++ [(⟨0, 2, true, .zero⟩ : Ed)] ++ M.map (sh (2 + n)) ++ [⟨3, 2 + n, true, .zero⟩] ++ [⟨2 + n + 1, 1, true, .zero⟩] = F
 have mem : ∀ e, e ∈ F ↔ (∃ d ∈ L, sh 2 d = e) ∨ e = ⟨0, 2, true, .zero⟩ ∨ (∃ d ∈ M, sh (2 + n) d = e) ∨ e = ⟨3, 2 + n, true, .zero⟩ ∨ e = ⟨2 + n + 1, 1, true, .zero⟩ := by
  intro e
  rw [← hF]
  simp only [List.mem_append, List.mem_map, List.mem_singleton, or_assoc]
 have no1 : ∀ e ∈ F, e.fr ≠ 1 := by
  intro e he
  rcases (mem e).1 he with ⟨d, hd, rfl⟩ | rfl | ⟨d, hd, rfl⟩ | rfl | rfl
  ·
   show d.fr + 2 ≠ 1; omega
  ·
   show 0 ≠ 1; omega
  ·
   show d.fr + (2 + n) ≠ 1; omega
  ·
   show 3 ≠ 1; omega
  ·
   show 2 + n + 1 ≠ 1; omega
 constructor
 ·
  intro h
  obtain ⟨e, he, h0, hf, h2⟩ := path_first h (by omega) (by
   intro e he h0
   rcases (mem e).1 he with ⟨d, hd, rfl⟩ | rfl | ⟨d, hd, rfl⟩ | rfl | rfl
   ·
    have h0 : d.fr + 2 = 0 := h0; omega
   ·
    rfl
   ·
    have h0 : d.fr + (2 + n) = 0 := h0; omega
   ·
    rfl
   ·
    rfl)
  have h3 : e.to = 2 := by
   rcases (mem e).1 he with ⟨d, hd, rfl⟩ | rfl | ⟨d, hd, rfl⟩ | rfl | rfl
   ·
    have h0 : d.fr + 2 = 0 := h0; omega
   ·
    rfl
   ·
    have h0 : d.fr + (2 + n) = 0 := h0; omega
   ·
    cases h0
   ·
    have h0 : 2 + n + 1 = 0 := h0; omega
  rw [h3] at h2
  obtain ⟨s1, s2, rfl, g1, g2⟩ := path_exit (G := L.map (sh 2)) (lo := 2) (hi := 2 + n) (a := 3) (b := 2 + n) (by
   intro e he h1 h2
   rcases (mem e).1 he with ⟨d, hd, rfl⟩ | rfl | ⟨d, hd, rfl⟩ | rfl | rfl
   ·
    have := (hL d hd).tom
    exact Or.inl ⟨List.mem_map.2 ⟨d, hd, rfl⟩, by show 2 ≤ d.to + 2; omega, by show d.to + 2 < 2 + n; omega⟩
   ·
    have h1 : 2 ≤ 0 := h1; omega
   ·
    have h2 : d.fr + (2 + n) < 2 + n := h2; omega
   ·
    exact Or.inr ⟨rfl, rfl, rfl⟩
   ·
    have h2 : 2 + n + 1 < 2 + n := h2; omega) h2 (by omega) (by omega) (by omega)
  obtain ⟨t1, t2, rfl, k1, k2⟩ := path_exit (G := M.map (sh (2 + n))) (lo := 2 + n) (hi := 2 + n + m) (a := 2 + n + 1) (b := 1) (by
   intro e he h1 h2
   rcases (mem e).1 he with ⟨d, hd, rfl⟩ | rfl | ⟨d, hd, rfl⟩ | rfl | rfl
   ·
    have := (hL d hd).frm
    have h1 : 2 + n ≤ d.fr + 2 := h1; omega
   ·
    have h1 : 2 + n ≤ 0 := h1; omega
   ·
    have := (hM d hd).tom
    exact Or.inl ⟨List.mem_map.2 ⟨d, hd, rfl⟩, by show 2 + n ≤ d.to + (2 + n); omega, by show d.to + (2 + n) < 2 + n + m; omega⟩
   ·
    have h1 : 2 + n ≤ 3 := h1; omega
   ·
    exact Or.inr ⟨rfl, rfl, rfl⟩) g2 (by omega) (by omega) (by omega)
  rw [(path_end k2 no1).1, List.append_nil]
  exact ⟨s1, t1, rfl, path_un g1 0 1 rfl rfl, path_un k1 0 1 (by omega) (by omega)⟩
 ·
  rintro ⟨s1, s2, rfl, h, k⟩
  have h1 : Path F 2 s1 3 := Path.mono (fun e he => (mem e).2 (Or.inl (List.mem_map.1 he))) (path_sh (k := 2) h)
  have k1 : Path F (0 + (2 + n)) s2 (1 + (2 + n)) := Path.mono (fun e he => (mem e).2 (Or.inr (Or.inr (Or.inl (List.mem_map.1 he))))) (path_sh (k := 2 + n) k)
  rw [Nat.zero_add, Nat.add_comm 1 (2 + n)] at k1
  have k2 : Path F (2 + n) (s2 ++ []) 1 := k1.append (Path.eps (e := ⟨2 + n + 1, 1, true, .zero⟩) ((mem _).2 (Or.inr (Or.inr (Or.inr (Or.inr rfl))))) rfl (.nil 1))
  rw [List.append_nil] at k2
  have h2 : Path F 2 (s1 ++ s2) 1 := h1.append (Path.eps (e := ⟨3, 2 + n, true, .zero⟩) ((mem _).2 (Or.inr (Or.inr (Or.inr (Or.inl rfl))))) rfl k2)
  exact Path.eps (e := ⟨0, 2, true, .zero⟩) ((mem _).2 (Or.inr (Or.inl rfl))) rfl h2
end
section
variable {d : Nat} {x y : Pat} {P : Pat}
theorem or_runs (hk : P.k = 4) (hs : P.ks = [x, y]) (hx : code d x = 0) (hy : code d y = 0) (hp : code (d + 1) P = 0) (s : List Nat) : runs (d + 1) P s = (runs d x s || runs d y s) := by
 have h4 := (code_ok hp).1
 have e1 : of (d + 1) P ⟨0, []⟩ = orF (of d) 0 1 [x, y] ⟨2, []⟩ := by
  conv => lhs; unfold of
  simp [hk, hs]
 have hL := fun (y : Pat) (b : Bd) (hb : b.sz ≤ 400) => of_lay d y b hb
 rw [e1] at h4
 have e2 : orF (of d) 0 1 [x, y] ⟨2, []⟩ = orF (of d) 0 1 [y] (((of d x ⟨2, []⟩).free 0 2).free 3 1) := by
  conv => lhs; unfold orF
  rw [not_full (b := ⟨2, []⟩) (by show 2 ≤ 400; omega)]
  rfl
 have hxs : (of d x ⟨2, []⟩).sz ≤ 400 := by
  rw [e2] at h4
  exact Nat.le_trans (or_stp hL 0 1 [y] (((of d x ⟨2, []⟩).free 0 2).free 3 1) (hL x ⟨2, []⟩ (by show 2 ≤ 400; omega)).top).sz h4
 have ex := of_at (d := d) (x := x) (k := 2) (b := ⟨2, []⟩) rfl (by decide) hxs
 have hx4 : 2 + (of d x ⟨0, []⟩).sz ≤ 400 := by rw [ex] at hxs; exact hxs
 rw [e2, ex] at h4
 have e3 : ∀ B : Bd, B.sz ≤ 400 → orF (of d) 0 1 [y] B = ((of d y B).free 0 B.sz).free (B.sz + 1) 1 := by
  intro B hB
  conv => lhs; unfold orF
  rw [not_full hB]
  rfl
 rw [e3 _ (by exact hx4)] at h4
 have ey := of_at (d := d) (x := y) (b := ((⟨2 + (of d x ⟨0, []⟩).sz, [] ++ (of d x ⟨0, []⟩).es.map (sh 2)⟩ : Bd).free 0 2).free 3 1) rfl hx4 h4
 rw [e2, ex, e3 _ (by exact hx4), ey] at e1
 have e5 := or_path (of_eg (d := d) (x := x)).1 (of_eg (d := d) (x := y)).1 (of_eg (d := d) (x := x)).2 (of_eg (d := d) (x := y)).2 s
 rw [Bool.eq_iff_iff, Bool.or_eq_true, runs_iff hp, runs_iff hx, runs_iff hy, ← e5, e1]
 exact Iff.rfl
theorem then_runs (hk : P.k = 3) (hs : P.ks = [x, y]) (hx : code d x = 0) (hy : code d y = 0) (hp : code (d + 1) P = 0) (s : List Nat) : runs (d + 1) P s = true ↔ ∃ s1 s2, s = s1 ++ s2 ∧ runs d x s1 = true ∧ runs d y s2 = true := by
 have h4 := (code_ok hp).1
 have e1 : of (d + 1) P ⟨0, []⟩ = (thenF (of d) [x, y] 0 ⟨2, []⟩).2.free (thenF (of d) [x, y] 0 ⟨2, []⟩).1 1 := by
  conv => lhs; unfold of
  simp [hk, hs]
 have hL := fun (y : Pat) (b : Bd) (hb : b.sz ≤ 400) => of_lay d y b hb
 rw [e1] at h4
 have e2 : thenF (of d) [x, y] 0 ⟨2, []⟩ = thenF (of d) [y] 3 ((of d x ⟨2, []⟩).free 0 2) := by
  conv => lhs; unfold thenF
  rw [not_full (b := ⟨2, []⟩) (by show 2 ≤ 400; omega)]
  rfl
 have hxs : (of d x ⟨2, []⟩).sz ≤ 400 := by
  rw [e2] at h4
  exact Nat.le_trans (then_stp hL [y] 3 ((of d x ⟨2, []⟩).free 0 2) (hL x ⟨2, []⟩ (by show 2 ≤ 400; omega)).top).sz h4
 have ex := of_at (d := d) (x := x) (k := 2) (b := ⟨2, []⟩) rfl (by decide) hxs
 have hx4 : 2 + (of d x ⟨0, []⟩).sz ≤ 400 := by rw [ex] at hxs; exact hxs
 rw [e2, ex] at h4
 have e3 : ∀ B : Bd, B.sz ≤ 400 → thenF (of d) [y] 3 B = (B.sz + 1, (of d y B).free 3 B.sz) := by
  intro B hB
  conv => lhs; unfold thenF
  rw [not_full hB]
  rfl
 rw [e3 _ (by exact hx4)] at h4
 have ey := of_at (d := d) (x := y) (b := (⟨2 + (of d x ⟨0, []⟩).sz, [] ++ (of d x ⟨0, []⟩).es.map (sh 2)⟩ : Bd).free 0 2) rfl hx4 h4
 rw [e2, ex, e3 _ (by exact hx4), ey] at e1
 have e5 := then_path (of_eg (d := d) (x := x)).1 (of_eg (d := d) (x := y)).1 (of_eg (d := d) (x := x)).2 (of_eg (d := d) (x := y)).2 s
 rw [runs_iff hp, e1]
 refine Iff.trans e5 ?_
 constructor
 ·
  rintro ⟨s1, s2, h1, h2, h3⟩
  exact ⟨s1, s2, h1, (runs_iff hx s1).2 h2, (runs_iff hy s2).2 h3⟩
 ·
  rintro ⟨s1, s2, h1, h2, h3⟩
  exact ⟨s1, s2, h1, (runs_iff hx s1).1 h2, (runs_iff hy s2).1 h3⟩
end
end Go.Proofs.Ytmfgplbfojnkdaa.nf
namespace Go.Proofs.Ytmfgplbfojnkdaa.close
open Go.RowKit Go.WideShapes Go.ChangeShapes
section
variable {H : Type} {enc : TypeId × Value → H} {P : Program}
end
end Go.Proofs.Ytmfgplbfojnkdaa.close
namespace Go.Proofs.Ytmfgplbfojnkdaa
open Go Go.RowKit Go.WideShapes Go.ChangeShapes cl rx
section
variable {H : Type} {enc : TypeId × Value → H} {W : World}
end
end Go.Proofs.Ytmfgplbfojnkdaa
namespace Go.Proofs.Ytmfgplbfojnkdaa
open Go Go.RowKit Go.WideShapes Go.ChangeShapes cl rx
section
variable {H : Type} {enc : TypeId × Value → H} {W : World}
end
end Go.Proofs.Ytmfgplbfojnkdaa
namespace Go.Proofs.Ytmfgplbfojnkdaa
open Go Go.RowKit Go.WideShapes Go.ChangeShapes cl rx
def okP : Nat → Pat → Prop
 | 0, _ => True
 | d + 1, x => x.cl.ok ∧ ∀ k ∈ x.ks, okP d k
section
variable {H : Type} {enc : TypeId × Value → H} {W : World}
def rxEo : Rel Pat := fun w B c x => ∃ d, rxR d w B c x ∧ ∀ e, okP e x
set_option maxRecDepth 100000 in
theorem rxrows_supo {w : World} {B : Nat} {v : Value} {l : List Pat} (h : RowsAt 8 rxEo w B v l) : ∃ d, RowsAt 8 (rxR d) w B v l ∧ ∀ k ∈ l, ∀ e, okP e k := by
 obtain ⟨cs, h0, h1, h2⟩ := h
 have key : ∀ n, ∃ d, ∀ (j : Nat) (c : List Value) (x : Pat), j < n → cs[j]? = some c → l[j]? = some x → rxR d w B c x := by
  intro n
  induction n with
  | zero => exact ⟨0, fun j c x hj => absurd hj (Nat.not_lt_zero _)⟩
  | succ n ih =>
   obtain ⟨d, hd⟩ := ih
   by_cases hn : n < cs.length
   ·
    have hn2 : n < l.length := by omega
    obtain ⟨_, e, he, _⟩ := h1 n cs[n] l[n] (List.getElem?_eq_getElem hn) (List.getElem?_eq_getElem hn2)
    refine ⟨max d e, fun j c x hj hc hx => ?_⟩
    by_cases hjn : j = n
    ·
     subst hjn
     rw [List.getElem?_eq_getElem hn] at hc
     rw [List.getElem?_eq_getElem hn2] at hx
     cases hc; cases hx
     exact rxR_le (Nat.le_max_right _ _) he
    ·
     exact rxR_le (Nat.le_max_left _ _) (hd j c x (by omega) hc hx)
   ·
    refine ⟨d, fun j c x hj hc hx => hd j c x ?_ hc hx⟩
    have := (List.getElem?_eq_some_iff.1 hc).1
    omega
 obtain ⟨d, hd⟩ := key cs.length
 refine ⟨d, ⟨cs, h0, fun j c x hc hx => ⟨(h1 j c x hc hx).1, hd j c x (List.getElem?_eq_some_iff.1 hc).1 hc hx⟩, h2⟩, fun k hk => ?_⟩
 obtain ⟨j, hj, hjk⟩ := List.getElem_of_mem hk
 obtain ⟨_, _, _, he⟩ := h1 j (cs[j]'(by omega)) k (List.getElem?_eq_getElem _) (by rw [List.getElem?_eq_getElem hj, hjk])
 exact he
set_option maxRecDepth 100000 in
theorem rxkids_openo {n : Nat} {v : Value} {x : DataW H × List MemPlace}
  (hel : ∀ (f : Nat) (cs : List Value) (y : DataW H × List MemPlace), f < n → cs.length = 8 → DataW.trod enc Try.prog W 0 (fun _ => true) true f 27 cs = some y → ∃ a : Pat, rxEo W W.heap.size cs a)
  (h : DataW.trod enc Try.prog W 0 (fun _ => true) true n 25 [v] = some x) : ∃ l : List Pat, RowsAt 8 rxEo W W.heap.size v l := by
 rcases DataW.trod_slice Try.underlying25 h with ⟨hcs, _⟩ | ⟨a, len, cap, elems, rest, f, hf, hcs, _, _, hle, hmax, hel2, hcell, _, _⟩
 ·
  obtain rfl := (List.cons.inj hcs).1
  exact ⟨[], RowsAt.nil _ _⟩
 ·
  obtain rfl := (List.cons.inj hcs).1
  rw [rx_cr] at hcell
  have each : ∀ i, i < len → ∃ z : List Value × Pat, z.1.length = 8 ∧ (∀ j, j < 8 → W.cell? (a.add (i * 8 + j)) = z.1[j]?) ∧ rxEo W W.heap.size z.1 z.2 := fun i hi => by
   have hc := hcell i hi
   rw [List.getElem?_eq_getElem (by omega)] at hc
   obtain ⟨cs', h1, h2⟩ := Option.bind_eq_some_iff.1 hc
   obtain ⟨_, hlen, hcc⟩ := World.cells?_some h1
   obtain ⟨y, hy⟩ := hel f cs' _ (by omega) hlen h2
   refine ⟨(cs', y), hlen, fun j hj => ?_, hy⟩
   have := hcc j (by omega)
   rwa [Deep.add_add] at this
  obtain ⟨f2, hf2⟩ := Deep.choose_lt each
  have hl : ((List.range len).map fun i => (f2 i).2).length = len := by simp
  have hl1 : ((List.range len).map fun i => (f2 i).1).length = len := by simp
  have hall : ∀ c ∈ (List.range len).map (fun i => (f2 i).1), c.length = 8 := by
   intro c hc
   obtain ⟨i, hi, rfl⟩ := List.mem_map.1 hc
   exact (hf2 i (List.mem_range.1 hi)).1
  refine ⟨(List.range len).map fun i => (f2 i).2, (List.range len).map fun i => (f2 i).1, by rw [hl, hl1], fun j c y hc hy => ?_, ⟨by rw [flat_len _ hall, hl1, hl], some a, cap, by rw [hl], ⟨(fun e => by cases e), by rw [hl]; exact hle⟩, by rw [hl]; omega, fun hp => ?_⟩⟩
  ·
   have hj : j < len := by have := (List.getElem?_eq_some_iff.1 hc).1; omega
   simp only [List.getElem?_map, List.getElem?_range hj, Option.map_some, Option.some.injEq] at hc hy
   subst hc
   subst hy
   exact ⟨(hf2 j hj).1, (hf2 j hj).2.2⟩
  ·
   rw [hl] at hp
   obtain ⟨b, off, spot⟩ := a
   have hcell2 : ∀ (j : Nat) u, ((List.range len).map fun i => (f2 i).1).flatten[j]? = some u → W.cell? ((⟨b, off, spot⟩ : Addr).add j) = some u := by
    intro j u hu
    have hjl : j < len * 8 := by
     have := (List.getElem?_eq_some_iff.1 hu).1
     rw [flat_len _ hall, hl1] at this; exact this
    have hq : j / 8 < len := by omega
    have := (hf2 (j / 8) hq).2.1 (j % 8) (by omega)
    rw [show j / 8 * 8 + j % 8 = j by omega] at this
    rw [this]
    have hfg := flat_get _ hall (j / 8) (f2 (j / 8)).1 (j % 8) (by simp [hq]) (by omega)
    rw [show j / 8 * 8 + j % 8 = j by omega] at hfg
    rw [← hfg]; exact hu
   have h0 : (((List.range len).map fun i => (f2 i).1).flatten)[0]? = some ((((List.range len).map fun i => (f2 i).1).flatten)[0]'(by rw [flat_len _ hall, hl1]; omega)) := List.getElem?_eq_getElem _
   have hz := hcell2 0 _ h0
   have hspot : spot = none := by simpa [Addr.add] using World.cell?_spot hz
   subst hspot
   refine ⟨b, off, rfl, ?_, fun j u hu => ?_⟩
   ·
    have hz := hz
    rw [Addr.add_lit] at hz
    exact World.block_lt_of_cell? _ _ hz
   ·
    have := hcell2 j u hu
    rwa [Addr.add_lit] at this
set_option maxRecDepth 100000 in
theorem rx_openo : ∀ (fuel : Nat) (cs : List Value) (x : DataW H × List MemPlace), cs.length = 8 → DataW.trod enc Try.prog W 0 (fun _ => true) true fuel 27 cs = some x → ∃ a : Pat, rxEo W W.heap.size cs a := by
 intro fuel
 induction fuel using Nat.strongRecOn with
 | _ fuel ih =>
  intro cs x hl h
  obtain ⟨xs, n, hn, _, _, hxl, hp⟩ := DataW.trod_struct Try.underlying27 h
  match cs, hl with
  | [c0, c1, c2, c3, c4, c5, c6, c7], _ =>
   have g0 := hp 0 _ rfl
   have g1 := hp 1 _ rfl
   have g2 := hp 2 _ rfl
   have g3 := hp 3 _ rfl
   have g4 := hp 4 _ rfl
   have hx : ∀ i, i < 5 → ∃ y, xs[i]? = some y := fun i hi => ⟨_, List.getElem?_eq_getElem (by rw [hxl]; exact hi)⟩
   obtain ⟨y0, e0⟩ := hx 0 (by omega)
   obtain ⟨y1, e1⟩ := hx 1 (by omega)
   obtain ⟨y2, e2⟩ := hx 2 (by omega)
   obtain ⟨y3, e3⟩ := hx 3 (by omega)
   obtain ⟨y4, e4⟩ := hx 4 (by omega)
   rw [e0] at g0
   rw [e1] at g1
   rw [e2] at g2
   rw [e3] at g3
   rw [e4] at g4
   simp [rx_ci, rx_cs, cls_cells] at g0 g1 g2 g3 g4
   obtain ⟨k, ek, _, _⟩ := DataW.trod_int Try.underlying3 g0
   obtain ⟨mn, em, _, _⟩ := DataW.trod_int Try.underlying3 g3
   obtain ⟨mx, ex, _, _⟩ := DataW.trod_int Try.underlying3 g4
   simp only [List.cons.injEq, and_true] at ek em ex
   subst ek; subst em; subst ex
   obtain ⟨z0, z1, z2, z3, m, hx, hy0, hy1, hy2, hy3⟩ := trod_array4 Try.underlying24 wrd_cells g1
   obtain ⟨x0, f0, rfl, w0⟩ := DataW.trod_int Try.underlying22 hy0
   obtain ⟨x1, f1, rfl, w1⟩ := DataW.trod_int Try.underlying22 hy1
   obtain ⟨x2, f2, rfl, w2⟩ := DataW.trod_int Try.underlying22 hy2
   obtain ⟨x3, f3, rfl, w3⟩ := DataW.trod_int Try.underlying22 hy3
   simp at f0 f1 f2 f3
   subst f0 f1 f2 f3
   have v0 := wf_u64 w0
   have v1 := wf_u64 w1
   have v2 := wf_u64 w2
   have v3 := wf_u64 w3
   obtain ⟨ks, hK⟩ := rxkids_openo (n := n) (fun f cs y hf hl hy => ih f (by omega) cs y hl hy) g2
   obtain ⟨d, hK, hO⟩ := rxrows_supo hK
   obtain ⟨ko, kc, rfl, _⟩ := hK.form
   refine ⟨.mk k ⟨x0.toNat, x1.toNat, x2.toNat, x3.toNat⟩ ks mn mx, d + 1, ⟨ko, _, kc, ?_, hK⟩, fun e => ?_⟩
   case refine_2 =>
    cases e with
    | zero => trivial
    | succ e => exact ⟨⟨by show x0.toNat < _; omega, by show x1.toNat < _; omega, by show x2.toNat < _; omega, by show x3.toNat < _; omega⟩, fun y hy => hO y hy e⟩
   simp only [Pat.k, Pat.cl, Pat.mn, Pat.mx, Int.toNat_of_nonneg v0.1, Int.toNat_of_nonneg v1.1, Int.toNat_of_nonneg v2.1, Int.toNat_of_nonneg v3.1]
set_option maxRecDepth 100000 in
theorem open_rxo {r : Reach} {b0 : Nat} {v : Value} {d : DataW H} {ps : List MemPlace} (hval : Value.okWide Try.prog W r b0 27 v) (hd : DataW.Trod enc Try.prog W 0 (fun _ => true) true 27 v d ps) : ∃ (e : Nat) (c : List Value) (x : Pat), v = .agg c.toArray ∧ rxR e W W.heap.size c x ∧ ∀ e, okP e x := by
 obtain ⟨cs, rfl, hsz⟩ := okWide_struct Try.underlying27 hval
 rw [rx_cr] at hsz
 obtain ⟨fuel, hf⟩ := hd
 obtain ⟨x, e, hx, ho⟩ := rx_openo fuel cs.toList _ (by rw [Array.length_toList]; exact hsz) hf
 exact ⟨e, cs.toList, x, by rw [Array.toArray_toList], hx, ho⟩
end
end Go.Proofs.Ytmfgplbfojnkdaa
namespace Go.Proofs.Ytmfgplbfojnkdaa.nf
open rx
def NewC (b b' : Bd) : Prop := ∀ e ∈ b'.es, e ∈ b.es ∨ e.cl.ok
theorem zero_ok : Cls.zero.ok := ⟨by decide, by decide, by decide, by decide⟩
theorem NewC.refl (b : Bd) : NewC b b := fun _ h => Or.inl h
theorem NewC.trans {a b c : Bd} (h : NewC a b) (h2 : NewC b c) : NewC a c := fun e he => (h2 e he).elim (fun h3 => h e h3) Or.inr
theorem NewC.free {a b : Bd} (h : NewC a b) (f t : Nat) : NewC a (b.free f t) := fun e he => by
 rcases List.mem_append.1 (show e ∈ b.es ++ [⟨f, t, true, .zero⟩] from he) with h3 | h3
 ·
  exact h e h3
 ·
  rw [List.mem_singleton.1 h3]; exact Or.inr zero_ok
theorem then_cls {O : Pat → Bd → Bd} : ∀ (ks : List Pat) (_ : ∀ x ∈ ks, ∀ b, NewC b (O x b)) (e : Nat) (b : Bd), NewC b (thenF O ks e b).2
 | [], _, _, b => NewC.refl b
 | x :: ks, h, e, b => by
  unfold thenF
  split
  ·
   exact NewC.refl b
  ·
   exact ((h x (List.mem_cons_self ..) b).free e b.sz).trans (then_cls ks (fun y hy => h y (List.mem_cons_of_mem _ hy)) _ _)
theorem or_cls {O : Pat → Bd → Bd} (s f : Nat) : ∀ (ks : List Pat) (_ : ∀ x ∈ ks, ∀ b, NewC b (O x b)) (b : Bd), NewC b (orF O s f ks b)
 | [], _, b => NewC.refl b
 | x :: ks, h, b => by
  unfold orF
  split
  ·
   exact NewC.refl b
  ·
   exact (((h x (List.mem_cons_self ..) b).free s b.sz).free (b.sz + 1) f).trans (or_cls s f ks (fun y hy => h y (List.mem_cons_of_mem _ hy)) _)
theorem one_cls {O : Bd → Bd} (h : ∀ b, NewC b (O b)) (mn mx : Int) (f n i e : Nat) (b : Bd) : NewC b (oneF O mn mx f n i e b) := by
 have h1 := (h b).free e b.sz
 have h2 : NewC b (if mn ≤ (i : Int) then ((O b).free e b.sz).free e f else (O b).free e b.sz) := by
  split
  ·
   exact h1.free e f
  ·
   exact h1
 unfold oneF
 simp only
 split
 ·
  exact h2.free _ _
 ·
  exact h2
theorem many_cls {O : Bd → Bd} (h : ∀ b, NewC b (O b)) (mn mx : Int) (f : Nat) : ∀ (n i e : Nat) (b : Bd), NewC b (manyF O mn mx f n i e b).2
 | 0, _, _, b => NewC.refl b
 | n + 1, i, e, b => by
  unfold manyF
  split
  ·
   exact NewC.refl b
  ·
   exact (one_cls h mn mx f n i e b).trans (many_cls h mn mx f n (i + 1) _ _)
theorem of_cls : ∀ (d : Nat) (x : Pat), okP d x → ∀ b, NewC b (of d x b)
 | 0, x, _, b => fun e he => Or.inl he
 | d + 1, x, h, b => by
  have hk : ∀ k ∈ x.ks, ∀ b, NewC b (of d k b) := fun k hk b => of_cls d k (h.2 k hk) b
  have h0 : NewC b ⟨b.sz + 2, b.es⟩ := fun e he => Or.inl he
  unfold of
  simp only
  split
  ·
   exact h0.free _ _
  ·
   split
   ·
    intro e he
    rcases List.mem_append.1 he with h3 | h3
    ·
     exact Or.inl h3
    ·
     rw [List.mem_singleton.1 h3]; exact Or.inr h.1
   ·
    split
    ·
     exact (h0.trans (then_cls x.ks hk _ _)).free _ _
    ·
     split
     ·
      exact h0.trans (or_cls _ _ x.ks hk _)
     ·
      split
      ·
       refine (h0.trans (many_cls (fun b => ?_) _ _ _ _ _ _ _)).free _ _
       cases hx : x.ks with
       | nil =>
        have hd : okP d (default : Pat) := by
         cases d with
         | zero => trivial
         | succ d => exact ⟨zero_ok, fun k hk => by cases hk⟩
        exact of_cls d default hd b
       | cons k ks => exact hk k (by rw [hx]; exact List.mem_cons_self ..) b
      ·
       exact h0
theorem made_cls {d : Nat} {x : Pat} (h : okP d x) (hc : code d x = 0) : ∀ e ∈ (made d x).es, e.cl.ok := fun e he => by
 rw [(code_ok hc).2] at he
 exact (of_cls d x h _ e he).elim (fun h => by cases h) id
end Go.Proofs.Ytmfgplbfojnkdaa.nf
namespace Go.Proofs.Ytmfgplbfojnkdaa.rf
open rx
section
variable (s : List Nat)
section
variable (O : T → Pat × T)
end
end
end Go.Proofs.Ytmfgplbfojnkdaa.rf

