/- texts put together: LabEsc, LabMath, LabSort, LabCanon0. -/
import Derived.Test.YtnbdcnbhejfdhaaGreatLv00
import Derived.Test.YtnbdcnbhejfdhaaGreatLv01
import Derived.Test.YtnbdcnbhejfdhaaGreatLv02
import Derived.Lib.Bytealg
import Derived.Maps.OwnSet
import Derived.Shelf.SlSortCmp.SmallK
import Derived.Sort.LotA
namespace Go.Proofs.YtnbdcnbhejfdhaaGreat
open Go.RowKit Go.ChangeShapes
theorem infoU8 : (Tryz.prog.info? 5).map (fun i => (i.zero, i.size, i.bytes)) = some (some (.int .u8 0), 1, 1) := by kernel_rfl
def esc1 (c : Nat) : List Nat := if c = 34 ∨ c = 92 then [92, c] else [c]
def escN (l : List Nat) : List Nat := l.flatMap esc1
theorem esc_snoc (l : List Nat) (c : Nat) : escN (l ++ [c]) = escN l ++ esc1 c := by
 simp [escN]
theorem esc_len (l : List Nat) : (escN l).length ≤ 2 * l.length := by
 induction l with
 | nil => simp [escN]
 | cons c l ih =>
  have e : escN (c :: l) = esc1 c ++ escN l := rfl
  have h : (esc1 c).length ≤ 2 := by unfold esc1; split <;> simp
  rw [e, List.length_append, List.length_cons]; omega
theorem bytes_len (s : ByteArray) : (kit.bytes s).length = s.size := by simp [kit.bytes]
theorem take_byte (s : ByteArray) (k : Nat) (h : k < s.size) : (kit.bytes s).take (k + 1) = (kit.bytes s).take k ++ [(s[k]'h).toNat] := by
 have hl : k < (kit.bytes s).length := by rw [bytes_len]; exact h
 rw [List.take_succ_eq_append_getElem hl]
 have := kit.bytes_get s k h
 rw [List.getElem?_eq_getElem hl] at this
 rw [Option.some.inj this]
theorem esc_step (s : ByteArray) (k : Nat) (h : k < s.size) : escN ((kit.bytes s).take (k + 1)) = escN ((kit.bytes s).take k) ++ esc1 ((s[k]'h).toNat) := by
 rw [take_byte s k h, esc_snoc]
def OwnP (B : Nat) (l : List Nat) (w : World) (e : Ending) (w' : World) : Prop := ∃ v', e = .returned v' ∧ w'.ownsRow B 5 1 v' l.length (kit.u8s l) ∧ Below B w w'
set_option maxHeartbeats 1600000 in
set_option maxRecDepth 100000 in
theorem esc_any (B : Nat) (l : List Nat) (v : Value) (s : ByteArray) (w : World) (hown : w.ownsRow B 5 1 v l.length (kit.u8s l)) (hB : B ≤ w.heap.size) (hlen : l.length + 2 * s.size ≤ 100000) :
  Calls Tryz.prog 67 #[v, .string s] w (OwnP B (l ++ escN (kit.bytes s)) w) := by
 obtain ⟨L, hL⟩ : ∃ L, L = l ++ escN (kit.bytes s) := ⟨_, rfl⟩
 rw [← hL]
 have HL := Lib.hid hL
 have hs : s.size ≤ 9223372036854775807 := by omega
 clear hL
 go_enter Tryz.func67, Tryz.ntmps67
 go_wp2
 go_loopw [0, 5, 8] (fun v _ i wr => ∃ (k : Nat) (pre : List Nat), k ≤ s.size ∧ i = .int .i64 k ∧ Hid (pre = l ++ escN ((kit.bytes s).take k)) ∧ pre.length ≤ l.length + 2 * k ∧ wr.ownsRow B 5 1 v pre.length (kit.u8s pre) ∧ Below B w wr)
  (fun _ _ i _ => s.size - (intOf i).toNat)
 case atStart => exact ⟨0, l, Nat.zero_le _, rfl, (by simp [escN] : l = l ++ escN ((kit.bytes s).take 0)), by omega, hown, Below.refl _ _⟩
 case round =>
  obtain ⟨k, pre, hk, rfl, HP, hpl, hown, hnx⟩ := hrel
  have hsz : B ≤ wr.heap.size := Nat.le_trans hB hnx.size
  by_cases hlt : k < s.size
  ·
   have HST := Lib.hid (esc_step s k hlt)
   have hkI : (k : Int) < (s.size : Int) := by omega
   by_cases h34 : (s[k]'hlt).toNat = 34
   ·
    have HP2 : Hid (pre ++ [92] ++ [34] = l ++ escN ((kit.bytes s).take (k + 1))) := by
     show _ = _
     rw [HST.out, HP.out, List.append_assoc, List.append_assoc, esc1, if_pos (by simp [h34]), h34]; rfl
    go_wp2_with (at_builtin; refine kit.app1 (.tmp 21) (.tmp 22) 107 rfl rfl B Tryz.underlying107 infoU8 rfl (by decide) (by decide) hown rfl rfl rfl (by intro u hu; simp at hu; subst hu; rfl) (by omega) hsz ?_)
    intro v1 w1 hown' hb'
    have hown2 : w1.ownsRow B 5 1 v1 (pre ++ [92]).length (kit.u8s (pre ++ [92])) := by simpa [kit.u8s] using hown'
    have hbx : Below B w w1 := hnx.trans hb'
    have hsz1 : B ≤ w1.heap.size := Nat.le_trans hB hbx.size
    have hl2 : (pre ++ [92]).length ≤ l.length + 2 * k + 1 := by simp; omega
    clear hown' hown hb' hnx hsz
    obtain ⟨pre2, hpre2⟩ : ∃ pre2, pre2 = pre ++ [92] := ⟨_, rfl⟩
    rw [← hpre2] at hown2 HP2 hl2
    clear hpre2
    go_wp2_with (at_builtin; refine kit.app1 (.tmp 24) (.tmp 28) 107 rfl rfl B Tryz.underlying107 infoU8 rfl (by decide) (by decide) hown2 rfl rfl rfl (by intro u hu; simp at hu; subst hu; rfl) (by omega) hsz1 ?_)
    intro v2 w2 hown' hb'
    have hown3 : w2.ownsRow B 5 1 v2 (pre2 ++ [34]).length (kit.u8s (pre2 ++ [34])) := by simpa [kit.u8s] using hown'
    clear hown' hown2
    go_wp2
    go_roundw
    case rel => exact ⟨k + 1, pre2 ++ [34], by omega, by go_num, HP2, by simp; omega, hown3, hbx.trans hb'⟩
    case measure => simp [intOf]; omega
   ·
    by_cases h92 : (s[k]'hlt).toNat = 92
    ·
     have HP2 : Hid (pre ++ [92] ++ [92] = l ++ escN ((kit.bytes s).take (k + 1))) := by
      show _ = _
      rw [HST.out, HP.out, List.append_assoc, List.append_assoc, esc1, if_pos (by simp [h92]), h92]; rfl
     go_wp2_with (at_builtin; refine kit.app1 (.tmp 21) (.tmp 22) 107 rfl rfl B Tryz.underlying107 infoU8 rfl (by decide) (by decide) hown rfl rfl rfl (by intro u hu; simp at hu; subst hu; rfl) (by omega) hsz ?_)
     intro v1 w1 hown' hb'
     have hown2 : w1.ownsRow B 5 1 v1 (pre ++ [92]).length (kit.u8s (pre ++ [92])) := by simpa [kit.u8s] using hown'
     have hbx : Below B w w1 := hnx.trans hb'
     have hsz1 : B ≤ w1.heap.size := Nat.le_trans hB hbx.size
     have hl2 : (pre ++ [92]).length ≤ l.length + 2 * k + 1 := by simp; omega
     clear hown' hown hb' hnx hsz
     obtain ⟨pre2, hpre2⟩ : ∃ pre2, pre2 = pre ++ [92] := ⟨_, rfl⟩
     rw [← hpre2] at hown2 HP2 hl2
     clear hpre2
     go_wp2_with (at_builtin; refine kit.app1 (.tmp 24) (.tmp 28) 107 rfl rfl B Tryz.underlying107 infoU8 rfl (by decide) (by decide) hown2 rfl rfl rfl (by intro u hu; simp at hu; subst hu; rfl) (by omega) hsz1 ?_)
     intro v2 w2 hown' hb'
     have hown3 : w2.ownsRow B 5 1 v2 (pre2 ++ [92]).length (kit.u8s (pre2 ++ [92])) := by simpa [kit.u8s] using hown'
     clear hown' hown2
     go_wp2
     go_roundw
     case rel => exact ⟨k + 1, pre2 ++ [92], by omega, by go_num, HP2, by simp; omega, hown3, hbx.trans hb'⟩
     case measure => simp [intOf]; omega
    ·
     have HP2 : Hid (pre ++ [(s[k]'hlt).toNat] = l ++ escN ((kit.bytes s).take (k + 1))) := by
      show _ = _
      rw [HST.out, HP.out, List.append_assoc, esc1, if_neg (by simp [h34, h92])]
     have g1 : ¬ ((s[k]'hlt).toNat : Int) = 34 := by omega
     have g2 : ¬ ((s[k]'hlt).toNat : Int) = 92 := by omega
     have g1b : (((s[k]'hlt).toNat : Int) == 34) = false := by simpa using g1
     have g2b : (((s[k]'hlt).toNat : Int) == 92) = false := by simpa using g2
     go_wp2_with (at_builtin; refine kit.app1 (.tmp 24) (.tmp 28) 107 rfl rfl B Tryz.underlying107 infoU8 rfl (by decide) (by decide) hown rfl rfl rfl (by intro u hu; simp at hu; subst hu; rfl) (by omega) hsz ?_)
     intro v' w1 hown' hb'
     have hown2 : w1.ownsRow B 5 1 v' (pre ++ [(s[k]'hlt).toNat]).length (kit.u8s (pre ++ [(s[k]'hlt).toNat])) := by simpa [kit.u8s] using hown'
     clear hown' hown
     go_wp2
     go_roundw
     case rel => exact ⟨k + 1, pre ++ [(s[k]'hlt).toNat], by omega, by go_num, HP2, by simp; omega, hown2, hnx.trans hb'⟩
     case measure => simp [intOf]; omega
  ·
   obtain rfl : k = s.size := by omega
   have HE : Hid (pre = L) := by
    show pre = L
    rw [HL.out, HP.out, List.take_of_length_le (by rw [bytes_len]; exact Nat.le_refl _)]
   go_wp2
   go_ret
   rw [← HE.out]
   exact ⟨_, rfl, hown, hnx⟩
end Go.Proofs.YtnbdcnbhejfdhaaGreat
namespace Go.Proofs.YtnbdcnbhejfdhaaGreat.lm
open Go.RowKit
def good (x : Lab) : Bool := lb.isName x.1 && lb.isVal x.2
def kept (l : List Lab) : List Lab := l.filter fun x => decide (x.2 ≠ .empty)
def names (l : List Lab) : List ByteArray := l.map fun x => x.1
instance (s : ByteArray) (l : List ByteArray) : Decidable (s ∈ l) := decidable_of_iff (∃ y ∈ l, y = s) ⟨fun ⟨_, h, e⟩ => e ▸ h, fun h => ⟨s, h, rfl⟩⟩
def fault (seen : List Lab) (x : Lab) : Int :=
 if good x = false then 8 else if x.1 ∈ names seen then 8 else if x.2 = .empty then 0 else if (kept seen).length = 6 then 4 else 0
def faults : List Lab → List Lab → Int
 | _, [] => 0
 | seen, x :: r => if fault seen x = 0 then faults (seen ++ [x]) r else fault seen x
def ins (x : Lab) : List Lab → List Lab
 | [] => [x]
 | y :: r => if tless x.1 y.1 = true then x :: y :: r else y :: ins x r
def sortN (l : List Lab) : List Lab := l.foldl (fun a x => ins x a) []
def canonF (l : List Lab) : Int × List Lab :=
 if faults [] l = 0 then (if kept l = [] then (8, []) else (0, sortN (kept l))) else (faults [] l, [])
def Srt (l : List Lab) : Prop := l.Pairwise fun a b => tless a.1 b.1 = true
theorem names_app (a b : List Lab) : names (a ++ b) = names a ++ names b := by simp [names]
theorem kept_app (a b : List Lab) : kept (a ++ b) = kept a ++ kept b := by simp [kept]
theorem kept_one (x : Lab) : kept [x] = if x.2 = .empty then [] else [x] := by
 unfold kept
 by_cases h : x.2 = .empty <;> simp [h]
theorem kept_sub (l : List Lab) : (kept l).Sublist l := List.filter_sublist
theorem kept_mem {l : List Lab} {x : Lab} : x ∈ kept l ↔ x ∈ l ∧ x.2 ≠ .empty := by simp [kept]
theorem ins_perm (x : Lab) : ∀ a : List Lab, (ins x a).Perm (x :: a) := by
 intro a
 induction a with
 | nil => exact List.Perm.refl _
 | cons y r ih =>
  unfold ins
  split
  ·
   exact List.Perm.refl _
  ·
   exact (List.Perm.cons y ih).trans (List.Perm.swap x y r)
theorem ins_srt (x : Lab) : ∀ a : List Lab, Srt a → x.1 ∉ names a → Srt (ins x a) := by
 intro a
 induction a with
 | nil => intro _ _; exact List.pairwise_singleton _ _
 | cons y r ih =>
  intro hs hx
  obtain ⟨h1, h2⟩ := List.pairwise_cons.1 hs
  unfold ins
  split
  ·
   rename_i hl
   exact List.pairwise_cons.2 ⟨fun z hz => by
    rcases List.mem_cons.1 hz with rfl | hz
    ·
     exact hl
    ·
     exact tless_trans hl (h1 z hz), hs⟩
  ·
   rename_i hl
   have hne : x.1 ≠ y.1 := fun e => hx (by simp [names, e])
   have hxr : x.1 ∉ names r := fun e => hx (by simp only [names, List.map_cons, List.mem_cons]; exact Or.inr e)
   refine List.pairwise_cons.2 ⟨fun z hz => ?_, ih h2 hxr⟩
   rcases List.mem_cons.1 ((ins_perm x r).mem_iff.1 hz) with rfl | hz
   ·
    rcases tless_total hne with h | h
    ·
     exact absurd h hl
    ·
     exact h
   ·
    exact h1 z hz
theorem sort_perm' : ∀ (l acc : List Lab), (l.foldl (fun a x => ins x a) acc).Perm (acc ++ l) := by
 intro l
 induction l with
 | nil => intro acc; simp
 | cons x r ih =>
  intro acc
  rw [List.foldl_cons]
  exact (ih _).trans (((ins_perm x acc).append_right r).trans List.perm_middle.symm)
theorem sortN_perm (l : List Lab) : (sortN l).Perm l := sort_perm' l []
theorem names_perm {a b : List Lab} (h : a.Perm b) : (names a).Perm (names b) := h.map _
theorem sort_srt' : ∀ (l acc : List Lab), Srt acc → (names (acc ++ l)).Nodup → Srt (l.foldl (fun a x => ins x a) acc) := by
 intro l
 induction l with
 | nil => intro acc h _; exact h
 | cons x r ih =>
  intro acc hs hn
  rw [List.foldl_cons]
  have hp : (acc ++ x :: r).Perm (ins x acc ++ r) := List.perm_middle.trans ((ins_perm x acc).append_right r).symm
  refine ih _ (ins_srt x acc hs fun hm => ?_) ((names_perm hp).nodup_iff.1 hn)
  rw [names_app] at hn
  exact (List.nodup_append.1 hn).2.2 x.1 hm x.1 (by simp [names]) rfl
theorem sortN_srt {l : List Lab} (h : (names l).Nodup) : Srt (sortN l) := sort_srt' l [] List.Pairwise.nil h
theorem srt_unique : ∀ {a b : List Lab}, Srt a → Srt b → a.Perm b → a = b := by
 intro a
 induction a with
 | nil => intro b _ _ h; exact h.symm.eq_nil.symm
 | cons x r ih =>
  intro b ha hb hp
  cases b with
  | nil => exact hp.eq_nil
  | cons y s =>
   obtain ⟨ha1, ha2⟩ := List.pairwise_cons.1 ha
   obtain ⟨hb1, hb2⟩ := List.pairwise_cons.1 hb
   have hxy : x = y := by
    rcases List.mem_cons.1 (hp.mem_iff.1 (List.mem_cons_self)) with h | h
    ·
     exact h
    ·
     rcases List.mem_cons.1 (hp.mem_iff.2 (List.mem_cons_self (a := y) (l := s))) with h' | h'
     ·
      exact h'.symm
     ·
      exact (tless_asymm (ha1 y h') (hb1 x h)).elim
   subst hxy
   rw [ih ha2 hb2 hp.cons_inv]
theorem srt_nodup {l : List Lab} (h : Srt l) : (names l).Nodup := by
 unfold names
 refine List.pairwise_map.2 (h.imp fun {a b} hab e => ?_)
 rw [e, tless_irrefl] at hab; cases hab
def Good (l : List Lab) : Prop := (∀ x ∈ l, good x = true) ∧ (names l).Nodup ∧ (kept l).length ≤ 6
theorem fault_zero {s : List Lab} {x : Lab} : fault s x = 0 ↔ good x = true ∧ x.1 ∉ names s ∧ (x.2 = .empty ∨ (kept s).length ≠ 6) := by
 unfold fault
 by_cases h1 : good x = false
 ·
  simp [h1]
 ·
  by_cases h2 : x.1 ∈ names s
  ·
   simp [h1, h2]
  ·
   by_cases h3 : x.2 = .empty
   ·
    simp [h1, h2, h3]
   ·
    by_cases h4 : (kept s).length = 6 <;> simp [h1, h2, h3, h4]
theorem faults_zero : ∀ (r s : List Lab), Good s → (faults s r = 0 ↔ Good (s ++ r)) := by
 intro r
 induction r with
 | nil => intro s h; simpa [faults] using h
 | cons x r ih =>
  intro s h
  have e : s ++ x :: r = (s ++ [x]) ++ r := by simp
  unfold faults
  by_cases hf : fault s x = 0
  ·
   rw [if_pos hf, e]
   refine ih _ ?_
   obtain ⟨f1, f2, f3⟩ := fault_zero.1 hf
   refine ⟨fun y hy => ?_, ?_, ?_⟩
   ·
    rcases List.mem_append.1 hy with hy | hy
    ·
     exact h.1 y hy
    ·
     simp only [List.mem_cons, List.not_mem_nil, or_false] at hy
     rw [hy]; exact f1
   ·
    rw [names_app]
    refine List.nodup_append.2 ⟨h.2.1, by simp [names], fun a ha b hb e => ?_⟩
    simp only [names, List.map_cons, List.map_nil, List.mem_cons, List.not_mem_nil, or_false] at hb
    rw [e, hb] at ha
    exact f2 ha
   ·
    rw [kept_app, kept_one, List.length_append]
    have := h.2.2
    split
    ·
     simpa using this
    ·
     rename_i hne
     rcases f3 with f3 | f3
     ·
      exact absurd f3 hne
     ·
      show _ + 1 ≤ 6; omega
  ·
   rw [if_neg hf]
   refine ⟨fun h0 => absurd h0 hf, fun hg => absurd (fault_zero.2 ⟨hg.1 x (by simp), ?_, ?_⟩) hf⟩
   ·
    intro hm
    have := hg.2.1
    rw [names_app] at this
    exact (List.nodup_append.1 this).2.2 x.1 hm x.1 (by simp [names]) rfl
   ·
    by_cases hx : x.2 = .empty
    ·
     exact Or.inl hx
    ·
     right
     have := hg.2.2
     rw [e, kept_app, kept_app, kept_one, if_neg hx, List.length_append, List.length_append] at this
     simp only [List.length_cons, List.length_nil] at this
     omega
theorem good_nil : Good [] := ⟨fun _ h => (by cases h), List.nodup_nil, by simp [kept]⟩
theorem faults_iff (l : List Lab) : faults [] l = 0 ↔ Good l := by simpa using faults_zero l [] good_nil
theorem canon_ok {l : List Lab} (h : Good l) (hk : kept l ≠ []) : canonF l = (0, sortN (kept l)) := by
 unfold canonF
 rw [if_pos ((faults_iff l).2 h), if_neg hk]
theorem canon_iff (l : List Lab) : (canonF l).1 = 0 ↔ Good l ∧ kept l ≠ [] := by
 unfold canonF
 by_cases h : faults [] l = 0
 ·
  rw [if_pos h]
  by_cases hk : kept l = []
  ·
   rw [if_pos hk]; simp [hk]
  ·
   rw [if_neg hk]; simp [hk, (faults_iff l).1 h]
 ·
  rw [if_neg h]
  exact ⟨fun e => absurd e h, fun e => absurd ((faults_iff l).2 e.1) h⟩
theorem canon_of {l c : List Lab} (h : canonF l = (0, c)) : Good l ∧ kept l ≠ [] ∧ c = sortN (kept l) := by
 have h1 := (canon_iff l).1 (by rw [h])
 refine ⟨h1.1, h1.2, ?_⟩
 have := canon_ok h1.1 h1.2
 rw [h] at this
 exact (Prod.mk.inj this).2
theorem canon_form {l c : List Lab} (h : canonF l = (0, c)) : c.Perm (kept l) ∧ Srt c ∧ kept c = c ∧ Good c ∧ c ≠ [] := by
 obtain ⟨hg, hk, rfl⟩ := canon_of h
 have hp := sortN_perm (kept l)
 have hnk : (names (kept l)).Nodup := hg.2.1.sublist ((kept_sub l).map _)
 have hs := sortN_srt hnk
 have hkc : kept (sortN (kept l)) = sortN (kept l) := List.filter_eq_self.2 fun x hx => by
  have := (kept_mem.1 (hp.mem_iff.1 hx)).2
  simpa using this
 refine ⟨hp, hs, hkc, ⟨fun x hx => hg.1 x (kept_mem.1 (hp.mem_iff.1 hx)).1, srt_nodup hs, by rw [hkc, hp.length_eq]; exact hg.2.2⟩, fun e => hk ?_⟩
 rw [e] at hp
 exact hp.symm.eq_nil
def oneT (x : Lab) : List Nat := kit.bytes x.1 ++ [61] ++ ([34] ++ escN (kit.bytes x.2) ++ [34])
def behind (l : List Lab) : List Nat := l.flatMap fun x => 44 :: oneT x
def textB (l : List Lab) : List Nat := [123] ++ (behind l).drop 1 ++ [125]
def textF (l : List Lab) : Int × ByteArray :=
 if (canonF l).1 = 0 then (if (canonF l).2 = l then (0, kit.str (textB l)) else (3, .empty)) else ((canonF l).1, .empty)
theorem behind_app (a b : List Lab) : behind (a ++ b) = behind a ++ behind b := by simp [behind]
theorem behind_one (x : Lab) : behind [x] = 44 :: oneT x := by simp [behind]
theorem text_iff {l : List Lab} {s : ByteArray} : textF l = (0, s) ↔ canonF l = (0, l) ∧ s = kit.str (textB l) := by
 unfold textF
 by_cases h : (canonF l).1 = 0
 ·
  rw [if_pos h]
  by_cases h2 : (canonF l).2 = l
  ·
   rw [if_pos h2]
   have : canonF l = (0, l) := Prod.ext h h2
   constructor
   ·
    intro e; exact ⟨this, (Prod.mk.inj e).2.symm⟩
   ·
    rintro ⟨_, rfl⟩; rfl
  ·
   rw [if_neg h2]
   refine ⟨fun e => absurd (Prod.mk.inj e).1 (by decide), fun ⟨e, _⟩ => absurd (by rw [e]) h2⟩
 ·
  rw [if_neg h]
  refine ⟨fun e => absurd (Prod.mk.inj e).1 h, fun ⟨e, _⟩ => absurd (by rw [e]) h⟩
theorem good_len {x : Lab} (h : good x = true) : x.1.size ≤ 16 ∧ 1 ≤ x.1.size ∧ x.2.size ≤ 32 := by
 unfold good at h
 rw [Bool.and_eq_true] at h
 have h1 := of_decide_eq_true h.1
 have h2 := of_decide_eq_true h.2
 exact ⟨h1.2.1, h1.1, h2.1⟩
theorem esc_inj : ∀ {a b t u : List Nat}, escN a ++ 34 :: t = escN b ++ 34 :: u → a = b ∧ t = u := by
 have e0 : ∀ (x : Nat) (r : List Nat), escN (x :: r) = esc1 x ++ escN r := fun x r => rfl
 intro a
 induction a with
 | nil =>
  intro b t u h
  cases b with
  | nil => exact ⟨rfl, by simpa [escN] using h⟩
  | cons y s =>
   rw [e0] at h
   unfold esc1 at h
   split at h
   ·
    simp [escN] at h
   ·
    rename_i hy
    simp [escN] at h
    exact absurd (Or.inl h.1.symm) hy
 | cons x r ih =>
  intro b t u h
  cases b with
  | nil =>
   rw [e0] at h
   unfold esc1 at h
   split at h
   ·
    simp [escN] at h
   ·
    rename_i hx
    simp [escN] at h
    exact absurd (Or.inl h.1) hx
  | cons y s =>
   rw [e0, e0] at h
   unfold esc1 at h
   split at h
   ·
    split at h
    ·
     simp only [List.cons_append, List.nil_append, List.cons.injEq, true_and] at h
     obtain ⟨h1, h2⟩ := ih h.2
     exact ⟨by rw [h.1, h1], h2⟩
    ·
     rename_i hy
     simp only [List.cons_append, List.nil_append, List.cons.injEq] at h
     exact absurd (Or.inr h.1.symm) hy
   ·
    split at h
    ·
     rename_i hx _
     simp only [List.cons_append, List.nil_append, List.cons.injEq] at h
     exact absurd (Or.inr h.1) hx
    ·
     simp only [List.cons_append, List.nil_append, List.cons.injEq] at h
     obtain ⟨h1, h2⟩ := ih h.2
     exact ⟨by rw [h.1, h1], h2⟩
theorem cut_inj : ∀ {a b t u : List Nat}, 61 ∉ a → 61 ∉ b → a ++ 61 :: t = b ++ 61 :: u → a = b ∧ t = u := by
 intro a
 induction a with
 | nil =>
  intro b t u _ hb h
  cases b with
  | nil => exact ⟨rfl, by simpa using h⟩
  | cons y s =>
   simp only [List.nil_append, List.cons_append, List.cons.injEq] at h
   exact absurd (by rw [← h.1]; exact List.mem_cons_self) hb
 | cons x r ih =>
  intro b t u ha hb h
  cases b with
  | nil =>
   simp only [List.nil_append, List.cons_append, List.cons.injEq] at h
   exact absurd (by rw [h.1]; exact List.mem_cons_self) ha
  | cons y s =>
   simp only [List.cons_append, List.cons.injEq] at h
   obtain ⟨h1, h2⟩ := ih (fun e => ha (List.mem_cons_of_mem _ e)) (fun e => hb (List.mem_cons_of_mem _ e)) h.2
   exact ⟨by rw [h.1, h1], h2⟩
theorem name_no61 {s : ByteArray} (h : lb.isName s = true) : 61 ∉ kit.bytes s := by
 have hn := (of_decide_eq_true h).2.2
 intro hm
 obtain ⟨i, hi, e⟩ := List.getElem_of_mem hm
 have hi2 : i < s.size := by rw [← kit.bytes_len]; exact hi
 have := hn i hi2
 have e2 : (kit.bytes s).getD i 0 = 61 := by simp [List.getD, hi, e]
 rw [e2] at this
 omega
theorem good_no61 {x : Lab} (h : good x = true) : 61 ∉ kit.bytes x.1 := by
 unfold good at h
 rw [Bool.and_eq_true] at h
 exact name_no61 h.1
theorem one_inj {x y : Lab} {t u : List Nat} (hx : good x = true) (hy : good y = true) (h : oneT x ++ t = oneT y ++ u) : x = y ∧ t = u := by
 unfold oneT at h
 simp only [List.append_assoc, List.cons_append, List.nil_append] at h
 obtain ⟨h1, h2⟩ := cut_inj (good_no61 hx) (good_no61 hy) h
 simp only [List.cons.injEq, true_and] at h2
 obtain ⟨h3, h4⟩ := esc_inj h2
 exact ⟨Prod.ext (kit.bytes_inj h1) (kit.bytes_inj h3), h4⟩
theorem behind_inj : ∀ {a b : List Lab}, (∀ x ∈ a, good x = true) → (∀ x ∈ b, good x = true) → behind a = behind b → a = b := by
 intro a
 induction a with
 | nil =>
  intro b _ _ h
  cases b with
  | nil => rfl
  | cons y s => simp [behind] at h
 | cons x r ih =>
  intro b ha hb h
  cases b with
  | nil => simp [behind] at h
  | cons y s =>
   have e : ∀ (z : Lab) (t : List Lab), behind (z :: t) = 44 :: (oneT z ++ behind t) := fun _ _ => rfl
   rw [e, e] at h
   simp only [List.cons.injEq, true_and] at h
   obtain ⟨h1, h2⟩ := one_inj (ha x List.mem_cons_self) (hb y List.mem_cons_self) h
   rw [h1, ih (fun z hz => ha z (List.mem_cons_of_mem _ hz)) (fun z hz => hb z (List.mem_cons_of_mem _ hz)) h2]
theorem behind_drop {l : List Lab} (h : l ≠ []) : behind l = 44 :: (behind l).drop 1 := by
 cases l with
 | nil => exact absurd rfl h
 | cons x r => rfl
theorem esc_lt : ∀ {l : List Nat}, (∀ x ∈ l, x < 256) → ∀ x ∈ escN l, x < 256 := by
 intro l h x hx
 obtain ⟨c, hc, hxc⟩ := List.mem_flatMap.1 hx
 unfold esc1 at hxc
 split at hxc
 ·
  rcases List.mem_cons.1 hxc with rfl | hxc
  ·
   decide
  ·
   simp only [List.mem_cons, List.not_mem_nil, or_false] at hxc
   rw [hxc]; exact h c hc
 ·
  simp only [List.mem_cons, List.not_mem_nil, or_false] at hxc
  rw [hxc]; exact h c hc
theorem oneT_lt (x : Lab) : ∀ y ∈ oneT x, y < 256 := by
 intro y hy
 unfold oneT at hy
 simp only [List.append_assoc, List.cons_append, List.nil_append, List.mem_append, List.mem_cons, List.not_mem_nil, or_false] at hy
 rcases hy with h | rfl | rfl | h | rfl
 ·
  exact kit.bytes_lt _ y h
 ·
  decide
 ·
  decide
 ·
  exact esc_lt (kit.bytes_lt _) y h
 ·
  decide
theorem behind_lt (l : List Lab) : ∀ y ∈ behind l, y < 256 := by
 intro y hy
 obtain ⟨x, _, h⟩ := List.mem_flatMap.1 hy
 rcases List.mem_cons.1 h with rfl | h
 ·
  decide
 ·
  exact oneT_lt x y h
theorem textB_lt (l : List Lab) : ∀ y ∈ textB l, y < 256 := by
 intro y hy
 unfold textB at hy
 simp only [List.cons_append, List.nil_append, List.mem_append, List.mem_cons, List.not_mem_nil, or_false] at hy
 rcases hy with rfl | h | rfl
 ·
  decide
 ·
  exact behind_lt l y (List.mem_of_mem_drop h)
 ·
  decide
theorem text_inj {l m : List Lab} {s : ByteArray} (h1 : textF l = (0, s)) (h2 : textF m = (0, s)) : l = m := by
 obtain ⟨c1, e1⟩ := text_iff.1 h1
 obtain ⟨c2, e2⟩ := text_iff.1 h2
 obtain ⟨_, _, _, g1, n1⟩ := canon_form c1
 obtain ⟨_, _, _, g2, n2⟩ := canon_form c2
 rw [e1] at e2
 have e := congrArg kit.bytes e2
 rw [kit.bytes_str _ (textB_lt l), kit.bytes_str _ (textB_lt m)] at e
 unfold textB at e
 simp only [List.cons_append, List.nil_append, List.cons.injEq, true_and] at e
 have e3 := List.append_cancel_right e
 refine behind_inj g1.1 g2.1 ?_
 rw [behind_drop n1, behind_drop n2, e3]
theorem cmp_lt : ∀ (a b : List UInt8), Lib.compareBytes a b < 0 ↔ a < b := by
 intro a
 induction a with
 | nil => intro b; cases b <;> simp [Lib.compareBytes]
 | cons x r ih =>
  intro b
  cases b with
  | nil => simp [Lib.compareBytes]
  | cons y s =>
   unfold Lib.compareBytes
   rw [List.cons_lt_cons_iff]
   by_cases h : x < y
   ·
    simp [h]
   ·
    by_cases h2 : y < x
    ·
     have hne : x ≠ y := fun e => by subst e; exact UInt8.lt_irrefl _ h2
     simp [h, h2, hne]
    ·
     have he : x = y := UInt8.le_antisymm (UInt8.not_lt.1 h2) (UInt8.not_lt.1 h)
     subst he
     simp [UInt8.lt_irrefl, ih]
def Is (s : ByteArray) (r : Int × List Lab) : Prop := (600 < s.size ∧ r = (4, [])) ∨ (¬ 600 < s.size ∧ ((∃ l, r = (0, l) ∧ textF l = (0, s)) ∨ (r = (3, []) ∧ ¬ ∃ l, textF l = (0, s))))
end Go.Proofs.YtnbdcnbhejfdhaaGreat.lm
namespace Go.Proofs.YtnbdcnbhejfdhaaGreat.lb
open Go Go.Shelf Go.RowKit Go.Lib Go.Sort
def enc (x : ByteArray × ByteArray) : List Value := [.string x.1, .string x.2]
def cf (x y : ByteArray × ByteArray) : Int := Lib.compareBytes x.1.data.toList y.1.data.toList
set_option maxHeartbeats 1000000 in
theorem closure (x y : ByteArray × ByteArray) (W : World) : Calls Tryz.prog 107 #[.agg #[.string x.1, .string x.2], .agg #[.string y.1, .string y.2]] W fun e w' => e = .returned (.int .i64 (cf x y)) ∧ ∃ q os', w' = grow (W.drewN q) os' := by
 have hcon := fun W' => Tryz.strings_Compare x.1 y.1 W'
 unfold cf
 generalize Lib.compareBytes x.1.data.toList y.1.data.toList = r at hcon ⊢
 go_enter Tryz.func107, Tryz.ntmps107
 go_wp2_with (go_at_call 34; refine (hcon _).mono ?_; rintro e w' ⟨rfl, rfl⟩)
 go_ret
 exact ⟨rfl, 0, _, by rw [alloc_eq_grow, alloc_eq_grow, grow_grow]; rfl⟩
theorem cmpLays (blk off size : Nat) (w : World) : CmpLays Tryz.prog 107 #[] enc 2 cf blk off size w :=
 fun _ _ _ _ x y => closure x y _
theorem hlen (n : Nat) (W : World) (h : n ≤ 12) : Calls Tryz.prog 52 #[.int .u64 n] W fun e w' => (∃ l : Int, e = .returned (.int .i64 l)) ∧ w' = W :=
 (Tryz.bits_Len n W (by omega) (by omega)).mono fun _ _ ⟨he, hw⟩ => ⟨⟨_, he⟩, hw⟩
set_option maxHeartbeats 1000000 in
theorem sortFunc (blk off cap : Nat) (d : Array (ByteArray × ByteArray)) (w : World) (hH : HoldsK enc 2 w blk off d) (hblk : blk < w.heap.size) (h12 : d.size ≤ 12) :
  Calls Tryz.prog 106 #[.slice (some ⟨blk, off, none⟩) d.size cap, .func (.func 107) #[] #[]] w fun e w' => e = .returned (.tuple #[]) ∧ ∃ n os, w' = sortWorldK enc 2 w blk off n (Sort.insertionSort (ltOf cf) d 0 d.size) os := by
 have eg : ∀ args w, (callFunc 107 args).run Tryz.prog w = .ok (.enter 107 args) w := enters_of Tryz.func107 (by kernel_rfl) rfl
 have hcon := AnyQ.slices_SortFunc_small Tryz.sortLab 2 Tryz.isAgg82 Tryz.sizeOf82 enc (fun _ => rfl) (fun x v hv => by simp [enc] at hv; rcases hv with rfl | rfl <;> rfl) cf 107 #[] blk off cap d w eg (cmpLays blk off d.size w) hH hblk h12 hlen
 exact hcon
end Go.Proofs.YtnbdcnbhejfdhaaGreat.lb
namespace Go.Proofs.YtnbdcnbhejfdhaaGreat.lm
open Go.RowKit Go.Sort Go.Maps
theorem cf_tless (x y : Lab) : ltOf lb.cf x y = tless x.1 y.1 := by
 have h : ltOf lb.cf x y = true ↔ tless x.1 y.1 = true := by
  unfold ltOf lb.cf
  rw [decide_eq_true_iff, cmp_lt, tless_iff, ByteArray.toList_eq, ByteArray.toList_eq]
 exact Bool.eq_iff_iff.2 h
theorem swo : SWO (ltOf lb.cf) where
 irrefl x := by rw [cf_tless, tless_irrefl]
 trans x y z h1 h2 := by rw [cf_tless] at *; exact tless_trans h1 h2
 ntrans x y z h1 h2 := by
  rw [cf_tless] at *
  by_cases e1 : x.1 = y.1
  ·
   rw [e1]; exact h2
  ·
   by_cases e2 : y.1 = z.1
   ·
    rw [← e2]; exact h1
   ·
    have h3 := (tless_total e1).resolve_left (by rw [h1]; exact Bool.false_ne_true)
    have h4 := (tless_total e2).resolve_left (by rw [h2]; exact Bool.false_ne_true)
    cases h : tless x.1 z.1 with
    | false => rfl
    | true => exact (tless_asymm h (tless_trans h4 h3)).elim
theorem sorted_is {l : List Lab} {d : Array Lab} (hn : (names l).Nodup) (hp : PermIn 0 l.toArray.size l.toArray d) (hs : SortedIn (ltOf lb.cf) 0 l.toArray.size d) : d.toList = sortN l := by
 obtain ⟨h1, _, h2⟩ := hp
 have e1 : (d.extract 0 l.toArray.size) = d := by rw [← h1]; simp
 have e2 : (l.toArray.extract 0 l.toArray.size).toList = l := by simp
 rw [e1, e2] at h2
 have hnd : (names d.toList).Nodup := (names_perm h2).nodup_iff.2 hn
 refine srt_unique ?_ (sortN_srt hn) (h2.trans (sortN_perm l).symm)
 unfold Srt
 rw [List.pairwise_iff_getElem]
 intro i j hi hj hij
 have hi' : i < d.size := by simpa using hi
 have hj' : j < d.size := by simpa using hj
 have h3 := hs i j (Nat.zero_le _) hij (by rw [← h1]; exact hj')
 rw [cf_tless, getElem!_pos d j hj', getElem!_pos d i hi'] at h3
 have hne : d[i].1 ≠ d[j].1 := fun e => by
  have h4 := List.pairwise_iff_getElem.1 hnd i j (by simpa [names] using hi') (by simpa [names] using hj') hij
  exact h4 (by simpa [names] using e)
 rw [Array.getElem_toList, Array.getElem_toList]
 exact (tless_total hne).resolve_right (by rw [h3]; exact Bool.false_ne_true)
def MapN (D : DataW Unit) (U : List ByteArray) : Prop := ∀ s, Maps.has D (.string s.data.toList) = decide (s ∈ U)
theorem mapN_nil : MapN (.map []) [] := fun _ => rfl
theorem mapN_put {D : DataW Unit} {U : List ByteArray} {s : ByteArray} (h : MapN D U) (hm : IsMap D) (d : DataW Unit) : MapN (D.put (.string s.data.toList) d) (U ++ [s]) := by
 intro t
 by_cases e : t = s
 ·
  subst e
  rw [has_put_same hm (by trivial)]
  simp
 ·
  rw [has_put_other (fun e2 => e (ByteArray.ext (Array.ext' (by simpa using e2)))), h t]
  simp [e]
end Go.Proofs.YtnbdcnbhejfdhaaGreat.lm
namespace Go.Proofs.YtnbdcnbhejfdhaaGreat
open Go.RowKit Go.ChangeShapes Go.Maps Go.WideMaps
theorem two {w w2 : World} {x y : Value} {t : TypeId} (hb : Below (w.alloc (.cells #[x, y] t)).heap.size (w.alloc (.cells #[x, y] t)) w2) :
  w2.cell? ⟨w.heap.size, 0, none⟩ = some x ∧ w2.cell? ⟨w.heap.size, 1, none⟩ = some y ∧ w2.frozen? ⟨w.heap.size, 0, none⟩ = false ∧ w2.frozen? ⟨w.heap.size, 1, none⟩ = false ∧ w.heap.size < w2.heap.size := by
 have hs : w.heap.size < (w.alloc (.cells #[x, y] t)).heap.size := by simp
 have c : ∀ (k : Nat) (u : Value), (#[x, y] : Array Value)[k]? = some u → w2.cell? ⟨w.heap.size, k, none⟩ = some u := fun k u hu =>
  (hb.cell (p := ⟨w.heap.size, k, none⟩) hs).trans (by rw [World.cell?_alloc_at _ _ _ _ rfl]; exact hu)
 have f : ∀ k : Nat, w2.frozen? ⟨w.heap.size, k, none⟩ = false := fun k => (hb.frozen (p := ⟨w.heap.size, k, none⟩) hs).trans (World.frozen?_alloc_at _ _ _ _ rfl)
 exact ⟨c 0 x rfl, c 1 y rfl, f 0, f 1, by have := hb.size; simp at this; omega⟩
theorem mlaw : Keyed Tryz.prog 9 := string_keyed Tryz.underlying9
theorem zeroI (w : World) : (zeroValue 3).run Tryz.prog w = .ok (.int .i64 0) w := by kernel_rfl
theorem look_ok {H : Type} {P : Program} {w : World} {ops : Array Oper} {rest : List Oper} {o : Oper} {a : Act} {Q : Exit → Act → World → Prop} (hg : o.guard = none) (m x : Operand) (t : TypeId) (hop : o.op = Op.lookup t m x true)
  (k e : TypeId) (q : IntKind) (K : Keyed P k) (ht : P.underlying t = some (.map k e)) (he : P.underlying e = some (.int q)) (hz : (zeroValue e).run P w = .ok (.int q 0) w) (b n : Nat) (D : DataW H)
  (hm : a.eval m = .map (some b)) (hown : w.ownsMap P k (plainElem P e) b n D) (key : Value) (kl : Lit) (hx : a.eval x = key) (hkey : keyOf P k key = some kl) (r : Bool) (hr : Maps.has D kl = r)
  (hK : ∀ c : Int, wpList P ops Q rest (a.put o.dst (.tuple #[.int q c, .bool r])) w) : wpList P ops Q (o :: rest) a w :=
 wpList_lookup_own_ok_int w hg m x t hop k e q K ht he hz b n D hm hown key kl hx hkey fun c _ _ => hr ▸ hK c
theorem infoLab : (Tryz.prog.info? 82).map (fun i => (i.zero, i.size, i.bytes)) = some (some (.agg #[.string ⟨#[]⟩, .string ⟨#[]⟩]), 2, 32) := by kernel_rfl
def CanonP (r : Int × List Lab) (w : World) (e : Ending) (w' : World) : Prop := ∃ v, e = .returned (.tuple #[v, .int .i64 r.1]) ∧ Labs w' w'.heap.size v r.2 ∧ Below w.heap.size w w'
theorem lcells_app (a b : List Lab) : lcells (a ++ b) = lcells a ++ lcells b := by simp [lcells]
theorem own_form {w : World} {B n k : Nat} {e : TypeId} {v : Value} {xs : List Value} (h : w.ownsRow B e k v n xs) : (v = .slice none 0 0 ∧ n = 0) ∨ ∃ g cap, v = .slice (some ⟨g, 0, none⟩) n cap ∧ B ≤ g := by
 rcases h.2 with ⟨rfl, hx⟩ | ⟨g, cap, cur, rfl, hbg, _⟩
 ·
  exact Or.inl ⟨rfl, hx⟩
 ·
  exact Or.inr ⟨g, cap, rfl, hbg⟩
end Go.Proofs.YtnbdcnbhejfdhaaGreat
