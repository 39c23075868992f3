/- label: its functions as plain functions of lists, and what is said of them. No walk. -/
import Derived.Test.YtpfjmomdnegcpaaLabOrd
import Derived.Test.YtpfjmomdnegcpaaLabName
import Derived.Test.YtpfjmomdnegcpaaLabVal
import Derived.Test.YtpfjmomdnegcpaaLabEsc
import Derived.Sort.LotA
import Derived.Lib.Bytealg
namespace Go.Proofs.Ytpfjmomdnegcpaa.lm
open Go.RowKit

def good (x : Lab) : Bool := lb.isName x.1 && lb.isVal x.2
def kept (l : List Lab) : List Lab := l.filter fun x => decide (x.2 ≠ .empty)
def names (l : List Lab) : List ByteArray := l.map fun x => x.1
instance (s : ByteArray) (l : List ByteArray) : Decidable (s ∈ l) := decidable_of_iff (∃ y ∈ l, y = s) ⟨fun ⟨_, h, e⟩ => e ▸ h, fun h => ⟨s, h, rfl⟩⟩
def fault (seen : List Lab) (x : Lab) : Int :=
  if good x = false then 8 else if x.1 ∈ names seen then 8 else if x.2 = .empty then 0 else if (kept seen).length = 6 then 4 else 0
def faults : List Lab → List Lab → Int
  | _, [] => 0
  | seen, x :: r => if fault seen x = 0 then faults (seen ++ [x]) r else fault seen x
def ins (x : Lab) : List Lab → List Lab
  | [] => [x]
  | y :: r => if tless x.1 y.1 = true then x :: y :: r else y :: ins x r
def sortN (l : List Lab) : List Lab := l.foldl (fun a x => ins x a) []
def canonF (l : List Lab) : Int × List Lab :=
  if faults [] l = 0 then (if kept l = [] then (8, []) else (0, sortN (kept l))) else (faults [] l, [])
def Srt (l : List Lab) : Prop := l.Pairwise fun a b => tless a.1 b.1 = true

theorem names_app (a b : List Lab) : names (a ++ b) = names a ++ names b := by simp [names]
theorem kept_app (a b : List Lab) : kept (a ++ b) = kept a ++ kept b := by simp [kept]
theorem kept_one (x : Lab) : kept [x] = if x.2 = .empty then [] else [x] := by
  unfold kept
  by_cases h : x.2 = .empty <;> simp [h]
theorem kept_sub (l : List Lab) : (kept l).Sublist l := List.filter_sublist
theorem kept_mem {l : List Lab} {x : Lab} : x ∈ kept l ↔ x ∈ l ∧ x.2 ≠ .empty := by simp [kept]

theorem ins_perm (x : Lab) : ∀ a : List Lab, (ins x a).Perm (x :: a) := by
  intro a
  induction a with
  | nil => exact List.Perm.refl _
  | cons y r ih =>
    unfold ins
    split
    · exact List.Perm.refl _
    · exact (List.Perm.cons y ih).trans (List.Perm.swap x y r)
theorem ins_srt (x : Lab) : ∀ a : List Lab, Srt a → x.1 ∉ names a → Srt (ins x a) := by
  intro a
  induction a with
  | nil => intro _ _; exact List.pairwise_singleton _ _
  | cons y r ih =>
    intro hs hx
    obtain ⟨h1, h2⟩ := List.pairwise_cons.1 hs
    unfold ins
    split
    · rename_i hl
      exact List.pairwise_cons.2 ⟨fun z hz => by
        rcases List.mem_cons.1 hz with rfl | hz
        · exact hl
        · exact tless_trans hl (h1 z hz), hs⟩
    · rename_i hl
      have hne : x.1 ≠ y.1 := fun e => hx (by simp [names, e])
      have hxr : x.1 ∉ names r := fun e => hx (by simp only [names, List.map_cons, List.mem_cons]; exact Or.inr e)
      refine List.pairwise_cons.2 ⟨fun z hz => ?_, ih h2 hxr⟩
      rcases List.mem_cons.1 ((ins_perm x r).mem_iff.1 hz) with rfl | hz
      · rcases tless_total hne with h | h
        · exact absurd h hl
        · exact h
      · exact h1 z hz
theorem ins_at {x : Lab} : ∀ {a : List Lab} {k : Nat}, Srt a → k ≤ a.length → (0 < k → tless x.1 (a.getD (k - 1) (.empty, .empty)).1 = false) → (∀ j, k ≤ j → j < a.length → tless x.1 (a.getD j (.empty, .empty)).1 = true) →
    ins x a = a.take k ++ x :: a.drop k := by
  intro a
  induction a with
  | nil => intro k _ _ _ _; simp [ins]
  | cons y r ih =>
    intro k hs hk h0 h1
    obtain ⟨hs1, hs2⟩ := List.pairwise_cons.1 hs
    cases k with
    | zero =>
      have := h1 0 (Nat.le_refl _) (by simp)
      simp only [List.getD_cons_zero] at this
      unfold ins
      rw [if_pos this]; rfl
    | succ k =>
      have hk' : k ≤ r.length := by simpa using hk
      have hny : tless x.1 y.1 = false := by
        have hl := h0 (Nat.succ_pos _)
        simp only [Nat.add_sub_cancel] at hl
        cases k with
        | zero => simpa using hl
        | succ k =>
          have hkr : k < r.length := by omega
          rw [List.getD_cons_succ] at hl
          cases hxy : tless x.1 y.1 with
          | false => rfl
          | true =>
            have := hs1 (r.getD k (.empty, .empty)) (by simp [List.getD, hkr])
            rw [tless_trans hxy this] at hl; cases hl
      unfold ins
      rw [if_neg (by rw [hny]; exact Bool.false_ne_true), ih (k := k) hs2 hk' (fun hp => ?_) (fun j hj hjr => ?_)]
      · rfl
      · have hl := h0 (Nat.succ_pos _)
        simp only [Nat.add_sub_cancel] at hl
        obtain ⟨m, rfl⟩ : ∃ m, k = m + 1 := ⟨k - 1, by omega⟩
        simpa using hl
      · have := h1 (j + 1) (by omega) (by simpa using hjr)
        simpa using this
theorem sortN_snoc (l : List Lab) (x : Lab) : sortN (l ++ [x]) = ins x (sortN l) := by simp [sortN]
theorem sort_perm' : ∀ (l acc : List Lab), (l.foldl (fun a x => ins x a) acc).Perm (acc ++ l) := by
  intro l
  induction l with
  | nil => intro acc; simp
  | cons x r ih =>
    intro acc
    rw [List.foldl_cons]
    exact (ih _).trans (((ins_perm x acc).append_right r).trans List.perm_middle.symm)
theorem sortN_perm (l : List Lab) : (sortN l).Perm l := sort_perm' l []
theorem names_perm {a b : List Lab} (h : a.Perm b) : (names a).Perm (names b) := h.map _
theorem sort_srt' : ∀ (l acc : List Lab), Srt acc → (names (acc ++ l)).Nodup → Srt (l.foldl (fun a x => ins x a) acc) := by
  intro l
  induction l with
  | nil => intro acc h _; exact h
  | cons x r ih =>
    intro acc hs hn
    rw [List.foldl_cons]
    have hp : (acc ++ x :: r).Perm (ins x acc ++ r) := List.perm_middle.trans ((ins_perm x acc).append_right r).symm
    refine ih _ (ins_srt x acc hs fun hm => ?_) ((names_perm hp).nodup_iff.1 hn)
    rw [names_app] at hn
    exact (List.nodup_append.1 hn).2.2 x.1 hm x.1 (by simp [names]) rfl
theorem sortN_srt {l : List Lab} (h : (names l).Nodup) : Srt (sortN l) := sort_srt' l [] List.Pairwise.nil h
theorem srt_unique : ∀ {a b : List Lab}, Srt a → Srt b → a.Perm b → a = b := by
  intro a
  induction a with
  | nil => intro b _ _ h; exact h.symm.eq_nil.symm
  | cons x r ih =>
    intro b ha hb hp
    cases b with
    | nil => exact hp.eq_nil
    | cons y s =>
      obtain ⟨ha1, ha2⟩ := List.pairwise_cons.1 ha
      obtain ⟨hb1, hb2⟩ := List.pairwise_cons.1 hb
      have hxy : x = y := by
        rcases List.mem_cons.1 (hp.mem_iff.1 (List.mem_cons_self)) with h | h
        · exact h
        · rcases List.mem_cons.1 (hp.mem_iff.2 (List.mem_cons_self (a := y) (l := s))) with h' | h'
          · exact h'.symm
          · exact (tless_asymm (ha1 y h') (hb1 x h)).elim
      subst hxy
      rw [ih ha2 hb2 hp.cons_inv]
theorem srt_nodup {l : List Lab} (h : Srt l) : (names l).Nodup := by
  unfold names
  refine List.pairwise_map.2 (h.imp fun {a b} hab e => ?_)
  rw [e, tless_irrefl] at hab; cases hab
theorem srt_fix {l : List Lab} (h : Srt l) : sortN l = l := srt_unique (sortN_srt (srt_nodup h)) h (sortN_perm l)

/-! ### which labels have a form -/
def Good (l : List Lab) : Prop := (∀ x ∈ l, good x = true) ∧ (names l).Nodup ∧ (kept l).length ≤ 6
theorem fault_cases (s : List Lab) (x : Lab) : fault s x = 0 ∨ fault s x = 8 ∨ fault s x = 4 := by
  unfold fault
  split
  · simp
  · split
    · simp
    · split
      · simp
      · split <;> simp
theorem fault_zero {s : List Lab} {x : Lab} : fault s x = 0 ↔ good x = true ∧ x.1 ∉ names s ∧ (x.2 = .empty ∨ (kept s).length ≠ 6) := by
  unfold fault
  by_cases h1 : good x = false
  · simp [h1]
  · by_cases h2 : x.1 ∈ names s
    · simp [h1, h2]
    · by_cases h3 : x.2 = .empty
      · simp [h1, h2, h3]
      · by_cases h4 : (kept s).length = 6 <;> simp [h1, h2, h3, h4]
theorem faults_zero : ∀ (r s : List Lab), Good s → (faults s r = 0 ↔ Good (s ++ r)) := by
  intro r
  induction r with
  | nil => intro s h; simpa [faults] using h
  | cons x r ih =>
    intro s h
    have e : s ++ x :: r = (s ++ [x]) ++ r := by simp
    unfold faults
    by_cases hf : fault s x = 0
    · rw [if_pos hf, e]
      refine ih _ ?_
      obtain ⟨f1, f2, f3⟩ := fault_zero.1 hf
      refine ⟨fun y hy => ?_, ?_, ?_⟩
      · rcases List.mem_append.1 hy with hy | hy
        · exact h.1 y hy
        · simp only [List.mem_cons, List.not_mem_nil, or_false] at hy
          rw [hy]; exact f1
      · rw [names_app]
        refine List.nodup_append.2 ⟨h.2.1, by simp [names], fun a ha b hb e => ?_⟩
        simp only [names, List.map_cons, List.map_nil, List.mem_cons, List.not_mem_nil, or_false] at hb
        rw [e, hb] at ha
        exact f2 ha
      · rw [kept_app, kept_one, List.length_append]
        have := h.2.2
        split
        · simpa using this
        · rename_i hne
          rcases f3 with f3 | f3
          · exact absurd f3 hne
          · show _ + 1 ≤ 6; omega
    · rw [if_neg hf]
      refine ⟨fun h0 => absurd h0 hf, fun hg => absurd (fault_zero.2 ⟨hg.1 x (by simp), ?_, ?_⟩) hf⟩
      · intro hm
        have := hg.2.1
        rw [names_app] at this
        exact (List.nodup_append.1 this).2.2 x.1 hm x.1 (by simp [names]) rfl
      · by_cases hx : x.2 = .empty
        · exact Or.inl hx
        · right
          have := hg.2.2
          rw [e, kept_app, kept_app, kept_one, if_neg hx, List.length_append, List.length_append] at this
          simp only [List.length_cons, List.length_nil] at this
          omega
theorem good_nil : Good [] := ⟨fun _ h => (by cases h), List.nodup_nil, by simp [kept]⟩
theorem faults_iff (l : List Lab) : faults [] l = 0 ↔ Good l := by simpa using faults_zero l [] good_nil
theorem faults_cases : ∀ (r s : List Lab), faults s r = 0 ∨ faults s r = 8 ∨ faults s r = 4 := by
  intro r
  induction r with
  | nil => intro s; exact Or.inl rfl
  | cons x r ih =>
    intro s
    unfold faults
    split
    · exact ih _
    · exact fault_cases s x
theorem canon_ok {l : List Lab} (h : Good l) (hk : kept l ≠ []) : canonF l = (0, sortN (kept l)) := by
  unfold canonF
  rw [if_pos ((faults_iff l).2 h), if_neg hk]
theorem canon_iff (l : List Lab) : (canonF l).1 = 0 ↔ Good l ∧ kept l ≠ [] := by
  unfold canonF
  by_cases h : faults [] l = 0
  · rw [if_pos h]
    by_cases hk : kept l = []
    · rw [if_pos hk]; simp [hk]
    · rw [if_neg hk]; simp [hk, (faults_iff l).1 h]
  · rw [if_neg h]
    exact ⟨fun e => absurd e h, fun e => absurd ((faults_iff l).2 e.1) h⟩
theorem canon_bad {l : List Lab} (h : (canonF l).1 ≠ 0) : (canonF l).2 = [] := by
  unfold canonF at h ⊢
  split
  · rename_i hf
    rw [if_pos hf] at h
    split
    · rfl
    · rename_i hk; rw [if_neg hk] at h; exact absurd rfl h
  · rfl
theorem canon_of {l c : List Lab} (h : canonF l = (0, c)) : Good l ∧ kept l ≠ [] ∧ c = sortN (kept l) := by
  have h1 := (canon_iff l).1 (by rw [h])
  refine ⟨h1.1, h1.2, ?_⟩
  have := canon_ok h1.1 h1.2
  rw [h] at this
  exact (Prod.mk.inj this).2
theorem canon_form {l c : List Lab} (h : canonF l = (0, c)) : c.Perm (kept l) ∧ Srt c ∧ kept c = c ∧ Good c ∧ c ≠ [] := by
  obtain ⟨hg, hk, rfl⟩ := canon_of h
  have hp := sortN_perm (kept l)
  have hnk : (names (kept l)).Nodup := hg.2.1.sublist ((kept_sub l).map _)
  have hs := sortN_srt hnk
  have hkc : kept (sortN (kept l)) = sortN (kept l) := List.filter_eq_self.2 fun x hx => by
    have := (kept_mem.1 (hp.mem_iff.1 hx)).2
    simpa using this
  refine ⟨hp, hs, hkc, ⟨fun x hx => hg.1 x (kept_mem.1 (hp.mem_iff.1 hx)).1, srt_nodup hs, by rw [hkc, hp.length_eq]; exact hg.2.2⟩, fun e => hk ?_⟩
  rw [e] at hp
  exact hp.symm.eq_nil
theorem canon_fix {l c : List Lab} (h : canonF l = (0, c)) : canonF c = (0, c) := by
  obtain ⟨_, hs, hkc, hg, hne⟩ := canon_form h
  rw [canon_ok hg (by rw [hkc]; exact hne), hkc, srt_fix hs]
theorem good_perm {l m : List Lab} (h : l.Perm m) (hg : Good l) : Good m :=
  ⟨fun x hx => hg.1 x (h.mem_iff.2 hx), (names_perm h).nodup_iff.1 hg.2.1, by rw [← (show (kept l).Perm (kept m) from h.filter _).length_eq]; exact hg.2.2⟩
theorem canon_perm {l m : List Lab} (h : l.Perm m) : ((canonF l).1 = 0 ↔ (canonF m).1 = 0) ∧ (canonF l).2 = (canonF m).2 := by
  have hkp : (kept l).Perm (kept m) := h.filter _
  have hi : (canonF l).1 = 0 ↔ (canonF m).1 = 0 := by
    rw [canon_iff, canon_iff]
    exact ⟨fun ⟨a, b⟩ => ⟨good_perm h a, fun e => b (by rw [e] at hkp; exact hkp.eq_nil)⟩, fun ⟨a, b⟩ => ⟨good_perm h.symm a, fun e => b (by rw [e] at hkp; exact hkp.symm.eq_nil)⟩⟩
  refine ⟨hi, ?_⟩
  by_cases h0 : (canonF l).1 = 0
  · obtain ⟨hg, hk⟩ := (canon_iff l).1 h0
    obtain ⟨hg', hk'⟩ := (canon_iff m).1 (hi.1 h0)
    rw [canon_ok hg hk, canon_ok hg' hk']
    refine srt_unique (sortN_srt (hg.2.1.sublist ((kept_sub l).map _))) (sortN_srt (hg'.2.1.sublist ((kept_sub m).map _))) ?_
    exact ((sortN_perm _).trans hkp).trans (sortN_perm _).symm
  · rw [canon_bad h0, canon_bad (fun e => h0 (hi.2 e))]
theorem lval_mem : ∀ {c : List Lab} {x : Lab}, (names c).Nodup → x ∈ c → lval c x.1 = x.2 := by
  intro c
  induction c with
  | nil => intro x _ h; cases h
  | cons y r ih =>
    intro x hn hx
    simp only [names, List.map_cons, List.nodup_cons] at hn
    show (if y.1 = x.1 then y.2 else lval r x.1) = _
    rcases List.mem_cons.1 hx with rfl | hx
    · rw [if_pos rfl]
    · rw [if_neg (fun e => hn.1 (by rw [e]; exact List.mem_map.2 ⟨x, hx, rfl⟩))]
      exact ih hn.2 hx
theorem lval_out : ∀ {c : List Lab} {n : ByteArray}, n ∉ names c → lval c n = .empty := by
  intro c
  induction c with
  | nil => intro n _; rfl
  | cons y r ih =>
    intro n hn
    simp only [names, List.map_cons, List.mem_cons, not_or] at hn
    show (if y.1 = n then y.2 else lval r n) = _
    rw [if_neg (fun e => hn.1 e.symm)]
    exact ih hn.2
theorem names_inj {l : List Lab} (h : (names l).Nodup) : ∀ {x y : Lab}, x ∈ l → y ∈ l → x.1 = y.1 → x = y := by
  induction l with
  | nil => intro x y hx; cases hx
  | cons z r ih =>
    intro x y hx hy e
    simp only [names, List.map_cons, List.nodup_cons] at h
    rcases List.mem_cons.1 hx with hx1 | hx1 <;> rcases List.mem_cons.1 hy with hy1 | hy1
    · rw [hx1, hy1]
    · exact absurd (by rw [← hx1, e]; exact List.mem_map.2 ⟨y, hy1, rfl⟩) h.1
    · exact absurd (by rw [← hy1, ← e]; exact List.mem_map.2 ⟨x, hx1, rfl⟩) h.1
    · exact ih h.2 hx1 hy1 e
theorem canon_val {l c : List Lab} (h : canonF l = (0, c)) {x : Lab} (hx : x ∈ l) : lval c x.1 = x.2 := by
  obtain ⟨hp, hs, _, hg, _⟩ := canon_form h
  have hgl := (canon_of h).1
  by_cases he : x.2 = .empty
  · rw [he]
    refine lval_out fun hm => ?_
    obtain ⟨y, hy, e⟩ := List.mem_map.1 hm
    have hyk := kept_mem.1 (hp.mem_iff.1 hy)
    have := names_inj hgl.2.1 hyk.1 hx e
    rw [this] at hyk
    exact hyk.2 he
  · exact lval_mem hg.2.1 (hp.mem_iff.2 (kept_mem.2 ⟨hx, he⟩))

/-! ### the text -/
def oneT (x : Lab) : List Nat := kit.bytes x.1 ++ [61] ++ ([34] ++ escN (kit.bytes x.2) ++ [34])
def behind (l : List Lab) : List Nat := l.flatMap fun x => 44 :: oneT x
def textB (l : List Lab) : List Nat := [123] ++ (behind l).drop 1 ++ [125]
def textF (l : List Lab) : Int × ByteArray :=
  if (canonF l).1 = 0 then (if (canonF l).2 = l then (0, kit.str (textB l)) else (3, .empty)) else ((canonF l).1, .empty)
theorem behind_app (a b : List Lab) : behind (a ++ b) = behind a ++ behind b := by simp [behind]
theorem behind_one (x : Lab) : behind [x] = 44 :: oneT x := by simp [behind]
theorem text_iff {l : List Lab} {s : ByteArray} : textF l = (0, s) ↔ canonF l = (0, l) ∧ s = kit.str (textB l) := by
  unfold textF
  by_cases h : (canonF l).1 = 0
  · rw [if_pos h]
    by_cases h2 : (canonF l).2 = l
    · rw [if_pos h2]
      have : canonF l = (0, l) := Prod.ext h h2
      constructor
      · intro e; exact ⟨this, (Prod.mk.inj e).2.symm⟩
      · rintro ⟨_, rfl⟩; rfl
    · rw [if_neg h2]
      refine ⟨fun e => absurd (Prod.mk.inj e).1 (by decide), fun ⟨e, _⟩ => absurd (by rw [e]) h2⟩
  · rw [if_neg h]
    refine ⟨fun e => absurd (Prod.mk.inj e).1 h, fun ⟨e, _⟩ => absurd (by rw [e]) h⟩
theorem text_bad {l : List Lab} (h : (textF l).1 ≠ 0) : (textF l).2 = .empty := by
  unfold textF at h ⊢
  split
  · rename_i h1
    rw [if_pos h1] at h
    split
    · rename_i h2; rw [if_pos h2] at h; exact absurd rfl h
    · rfl
  · rfl
theorem good_len {x : Lab} (h : good x = true) : x.1.size ≤ 16 ∧ 1 ≤ x.1.size ∧ x.2.size ≤ 32 := by
  unfold good at h
  rw [Bool.and_eq_true] at h
  have h1 := of_decide_eq_true h.1
  have h2 := of_decide_eq_true h.2
  exact ⟨h1.2.1, h1.1, h2.1⟩
theorem oneT_len {x : Lab} (h : x.1.size ≤ 16 ∧ x.2.size ≤ 32) : (oneT x).length ≤ 83 := by
  have := esc_len (kit.bytes x.2)
  unfold oneT
  simp only [List.length_append, List.length_cons, List.length_nil, kit.bytes_len] at this ⊢
  omega
theorem behind_len : ∀ {l : List Lab}, (∀ x ∈ l, good x = true) → (behind l).length ≤ 84 * l.length := by
  intro l
  induction l with
  | nil => intro _; simp [behind]
  | cons x r ih =>
    intro h
    have h1 := ih fun y hy => h y (List.mem_cons_of_mem _ hy)
    have hg := good_len (h x List.mem_cons_self)
    have h2 := oneT_len (x := x) ⟨hg.1, hg.2.2⟩
    have e : behind (x :: r) = (44 :: oneT x) ++ behind r := rfl
    rw [e, List.length_append, List.length_cons, List.length_cons]
    omega
theorem textB_len {l : List Lab} (h : canonF l = (0, l)) : (textB l).length ≤ 600 := by
  obtain ⟨hp, hs, hk, hg, hne⟩ := canon_form h
  have h1 := behind_len hg.1
  have h6 := hg.2.2
  rw [hk] at h6
  unfold textB
  simp only [List.length_append, List.length_cons, List.length_nil, List.length_drop]
  omega

/-! ### no two labels have one text -/
theorem esc_inj : ∀ {a b t u : List Nat}, escN a ++ 34 :: t = escN b ++ 34 :: u → a = b ∧ t = u := by
  have e0 : ∀ (x : Nat) (r : List Nat), escN (x :: r) = esc1 x ++ escN r := fun x r => rfl
  intro a
  induction a with
  | nil =>
    intro b t u h
    cases b with
    | nil => exact ⟨rfl, by simpa [escN] using h⟩
    | cons y s =>
      rw [e0] at h
      unfold esc1 at h
      split at h
      · simp [escN] at h
      · rename_i hy
        simp [escN] at h
        exact absurd (Or.inl h.1.symm) hy
  | cons x r ih =>
    intro b t u h
    cases b with
    | nil =>
      rw [e0] at h
      unfold esc1 at h
      split at h
      · simp [escN] at h
      · rename_i hx
        simp [escN] at h
        exact absurd (Or.inl h.1) hx
    | cons y s =>
      rw [e0, e0] at h
      unfold esc1 at h
      split at h
      · split at h
        · simp only [List.cons_append, List.nil_append, List.cons.injEq, true_and] at h
          obtain ⟨h1, h2⟩ := ih h.2
          exact ⟨by rw [h.1, h1], h2⟩
        · rename_i hy
          simp only [List.cons_append, List.nil_append, List.cons.injEq] at h
          exact absurd (Or.inr h.1.symm) hy
      · split at h
        · rename_i hx _
          simp only [List.cons_append, List.nil_append, List.cons.injEq] at h
          exact absurd (Or.inr h.1) hx
        · simp only [List.cons_append, List.nil_append, List.cons.injEq] at h
          obtain ⟨h1, h2⟩ := ih h.2
          exact ⟨by rw [h.1, h1], h2⟩
theorem cut_inj : ∀ {a b t u : List Nat}, 61 ∉ a → 61 ∉ b → a ++ 61 :: t = b ++ 61 :: u → a = b ∧ t = u := by
  intro a
  induction a with
  | nil =>
    intro b t u _ hb h
    cases b with
    | nil => exact ⟨rfl, by simpa using h⟩
    | cons y s =>
      simp only [List.nil_append, List.cons_append, List.cons.injEq] at h
      exact absurd (by rw [← h.1]; exact List.mem_cons_self) hb
  | cons x r ih =>
    intro b t u ha hb h
    cases b with
    | nil =>
      simp only [List.nil_append, List.cons_append, List.cons.injEq] at h
      exact absurd (by rw [h.1]; exact List.mem_cons_self) ha
    | cons y s =>
      simp only [List.cons_append, List.cons.injEq] at h
      obtain ⟨h1, h2⟩ := ih (fun e => ha (List.mem_cons_of_mem _ e)) (fun e => hb (List.mem_cons_of_mem _ e)) h.2
      exact ⟨by rw [h.1, h1], h2⟩
theorem name_no61 {s : ByteArray} (h : lb.isName s = true) : 61 ∉ kit.bytes s := by
  have hn := (of_decide_eq_true h).2.2
  intro hm
  obtain ⟨i, hi, e⟩ := List.getElem_of_mem hm
  have hi2 : i < s.size := by rw [← kit.bytes_len]; exact hi
  have := hn i hi2
  have e2 : (kit.bytes s).getD i 0 = 61 := by simp [List.getD, hi, e]
  rw [e2] at this
  omega
theorem good_no61 {x : Lab} (h : good x = true) : 61 ∉ kit.bytes x.1 := by
  unfold good at h
  rw [Bool.and_eq_true] at h
  exact name_no61 h.1
theorem one_inj {x y : Lab} {t u : List Nat} (hx : good x = true) (hy : good y = true) (h : oneT x ++ t = oneT y ++ u) : x = y ∧ t = u := by
  unfold oneT at h
  simp only [List.append_assoc, List.cons_append, List.nil_append] at h
  obtain ⟨h1, h2⟩ := cut_inj (good_no61 hx) (good_no61 hy) h
  simp only [List.cons.injEq, true_and] at h2
  obtain ⟨h3, h4⟩ := esc_inj h2
  exact ⟨Prod.ext (kit.bytes_inj h1) (kit.bytes_inj h3), h4⟩
theorem behind_inj : ∀ {a b : List Lab}, (∀ x ∈ a, good x = true) → (∀ x ∈ b, good x = true) → behind a = behind b → a = b := by
  intro a
  induction a with
  | nil =>
    intro b _ _ h
    cases b with
    | nil => rfl
    | cons y s => simp [behind] at h
  | cons x r ih =>
    intro b ha hb h
    cases b with
    | nil => simp [behind] at h
    | cons y s =>
      have e : ∀ (z : Lab) (t : List Lab), behind (z :: t) = 44 :: (oneT z ++ behind t) := fun _ _ => rfl
      rw [e, e] at h
      simp only [List.cons.injEq, true_and] at h
      obtain ⟨h1, h2⟩ := one_inj (ha x List.mem_cons_self) (hb y List.mem_cons_self) h
      rw [h1, ih (fun z hz => ha z (List.mem_cons_of_mem _ hz)) (fun z hz => hb z (List.mem_cons_of_mem _ hz)) h2]
theorem behind_drop {l : List Lab} (h : l ≠ []) : behind l = 44 :: (behind l).drop 1 := by
  cases l with
  | nil => exact absurd rfl h
  | cons x r => rfl
theorem esc_lt : ∀ {l : List Nat}, (∀ x ∈ l, x < 256) → ∀ x ∈ escN l, x < 256 := by
  intro l h x hx
  obtain ⟨c, hc, hxc⟩ := List.mem_flatMap.1 hx
  unfold esc1 at hxc
  split at hxc
  · rcases List.mem_cons.1 hxc with rfl | hxc
    · decide
    · simp only [List.mem_cons, List.not_mem_nil, or_false] at hxc
      rw [hxc]; exact h c hc
  · simp only [List.mem_cons, List.not_mem_nil, or_false] at hxc
    rw [hxc]; exact h c hc
theorem oneT_lt (x : Lab) : ∀ y ∈ oneT x, y < 256 := by
  intro y hy
  unfold oneT at hy
  simp only [List.append_assoc, List.cons_append, List.nil_append, List.mem_append, List.mem_cons, List.not_mem_nil, or_false] at hy
  rcases hy with h | rfl | rfl | h | rfl
  · exact kit.bytes_lt _ y h
  · decide
  · decide
  · exact esc_lt (kit.bytes_lt _) y h
  · decide
theorem behind_lt (l : List Lab) : ∀ y ∈ behind l, y < 256 := by
  intro y hy
  obtain ⟨x, _, h⟩ := List.mem_flatMap.1 hy
  rcases List.mem_cons.1 h with rfl | h
  · decide
  · exact oneT_lt x y h
theorem textB_lt (l : List Lab) : ∀ y ∈ textB l, y < 256 := by
  intro y hy
  unfold textB at hy
  simp only [List.cons_append, List.nil_append, List.mem_append, List.mem_cons, List.not_mem_nil, or_false] at hy
  rcases hy with rfl | h | rfl
  · decide
  · exact behind_lt l y (List.mem_of_mem_drop h)
  · decide
theorem text_inj {l m : List Lab} {s : ByteArray} (h1 : textF l = (0, s)) (h2 : textF m = (0, s)) : l = m := by
  obtain ⟨c1, e1⟩ := text_iff.1 h1
  obtain ⟨c2, e2⟩ := text_iff.1 h2
  obtain ⟨_, _, _, g1, n1⟩ := canon_form c1
  obtain ⟨_, _, _, g2, n2⟩ := canon_form c2
  rw [e1] at e2
  have e := congrArg kit.bytes e2
  rw [kit.bytes_str _ (textB_lt l), kit.bytes_str _ (textB_lt m)] at e
  unfold textB at e
  simp only [List.cons_append, List.nil_append, List.cons.injEq, true_and] at e
  have e3 := List.append_cancel_right e
  refine behind_inj g1.1 g2.1 ?_
  rw [behind_drop n1, behind_drop n2, e3]

/-! ### the sort -/
theorem cmp_lt : ∀ (a b : List UInt8), Lib.compareBytes a b < 0 ↔ a < b := by
  intro a
  induction a with
  | nil => intro b; cases b <;> simp [Lib.compareBytes]
  | cons x r ih =>
    intro b
    cases b with
    | nil => simp [Lib.compareBytes]
    | cons y s =>
      unfold Lib.compareBytes
      rw [List.cons_lt_cons_iff]
      by_cases h : x < y
      · simp [h]
      · by_cases h2 : y < x
        · have hne : x ≠ y := fun e => by subst e; exact UInt8.lt_irrefl _ h2
          simp [h, h2, hne]
        · have he : x = y := UInt8.le_antisymm (UInt8.not_lt.1 h2) (UInt8.not_lt.1 h)
          subst he
          simp [UInt8.lt_irrefl, ih]
def Is (s : ByteArray) (r : Int × List Lab) : Prop := (600 < s.size ∧ r = (4, [])) ∨ (¬ 600 < s.size ∧ ((∃ l, r = (0, l) ∧ textF l = (0, s)) ∨ (r = (3, []) ∧ ¬ ∃ l, textF l = (0, s))))
theorem is_one {s : ByteArray} {r q : Int × List Lab} (h1 : Is s r) (h2 : Is s q) : r = q := by
  rcases h1 with ⟨a, b⟩ | ⟨a, b⟩ <;> rcases h2 with ⟨c, d⟩ | ⟨c, d⟩
  · rw [b, d]
  · exact absurd a c
  · exact absurd c a
  · rcases b with ⟨l, b1, b2⟩ | ⟨b1, b2⟩ <;> rcases d with ⟨m, d1, d2⟩ | ⟨d1, d2⟩
    · rw [b1, d1, text_inj b2 d2]
    · exact absurd ⟨l, b2⟩ d2
    · exact absurd ⟨m, d2⟩ b2
    · rw [b1, d1]
end Go.Proofs.Ytpfjmomdnegcpaa.lm
