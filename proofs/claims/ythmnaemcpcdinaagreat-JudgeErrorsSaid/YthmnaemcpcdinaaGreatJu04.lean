/- texts put together: LabMath, LabSort, LabCanon0, MdLive. -/
import Derived.Test.YthmnaemcpcdinaaGreatJu00
import Derived.Test.YthmnaemcpcdinaaGreatJu01
import Derived.Test.YthmnaemcpcdinaaGreatJu02
import Derived.Test.YthmnaemcpcdinaaGreatJu03
import Derived.Lib.Bytealg
import Derived.Maps.OwnSet
import Derived.Shelf.SlSortCmp.SmallK
import Derived.Sort.LotA
import Derived.Test.YthmnaemcpcdinaaGreatRows
namespace Go.Proofs.YthmnaemcpcdinaaGreat.lm
open Go.RowKit
def good (x : Lab) : Bool := lb.isName x.1 && lb.isVal x.2
def kept (l : List Lab) : List Lab := l.filter fun x => decide (x.2 ≠ .empty)
def names (l : List Lab) : List ByteArray := l.map fun x => x.1
instance (s : ByteArray) (l : List ByteArray) : Decidable (s ∈ l) := decidable_of_iff (∃ y ∈ l, y = s) ⟨fun ⟨_, h, e⟩ => e ▸ h, fun h => ⟨s, h, rfl⟩⟩
def fault (seen : List Lab) (x : Lab) : Int :=
 if good x = false then 8 else if x.1 ∈ names seen then 8 else if x.2 = .empty then 0 else if (kept seen).length = 6 then 4 else 0
def faults : List Lab → List Lab → Int
 | _, [] => 0
 | seen, x :: r => if fault seen x = 0 then faults (seen ++ [x]) r else fault seen x
def ins (x : Lab) : List Lab → List Lab
 | [] => [x]
 | y :: r => if tless x.1 y.1 = true then x :: y :: r else y :: ins x r
def sortN (l : List Lab) : List Lab := l.foldl (fun a x => ins x a) []
def canonF (l : List Lab) : Int × List Lab :=
 if faults [] l = 0 then (if kept l = [] then (8, []) else (0, sortN (kept l))) else (faults [] l, [])
def Srt (l : List Lab) : Prop := l.Pairwise fun a b => tless a.1 b.1 = true
theorem names_app (a b : List Lab) : names (a ++ b) = names a ++ names b := by simp [names]
theorem kept_app (a b : List Lab) : kept (a ++ b) = kept a ++ kept b := by simp [kept]
theorem kept_one (x : Lab) : kept [x] = if x.2 = .empty then [] else [x] := by
 unfold kept
 by_cases h : x.2 = .empty <;> simp [h]
theorem kept_sub (l : List Lab) : (kept l).Sublist l := List.filter_sublist
theorem kept_mem {l : List Lab} {x : Lab} : x ∈ kept l ↔ x ∈ l ∧ x.2 ≠ .empty := by simp [kept]
theorem ins_perm (x : Lab) : ∀ a : List Lab, (ins x a).Perm (x :: a) := by
 intro a
 induction a with
 | nil => exact List.Perm.refl _
 | cons y r ih =>
  unfold ins
  split
  ·
   exact List.Perm.refl _
  ·
   exact (List.Perm.cons y ih).trans (List.Perm.swap x y r)
theorem ins_srt (x : Lab) : ∀ a : List Lab, Srt a → x.1 ∉ names a → Srt (ins x a) := by
 intro a
 induction a with
 | nil => intro _ _; exact List.pairwise_singleton _ _
 | cons y r ih =>
  intro hs hx
  obtain ⟨h1, h2⟩ := List.pairwise_cons.1 hs
  unfold ins
  split
  ·
   rename_i hl
   exact List.pairwise_cons.2 ⟨fun z hz => by
    rcases List.mem_cons.1 hz with rfl | hz
    ·
     exact hl
    ·
     exact tless_trans hl (h1 z hz), hs⟩
  ·
   rename_i hl
   have hne : x.1 ≠ y.1 := fun e => hx (by simp [names, e])
   have hxr : x.1 ∉ names r := fun e => hx (by simp only [names, List.map_cons, List.mem_cons]; exact Or.inr e)
   refine List.pairwise_cons.2 ⟨fun z hz => ?_, ih h2 hxr⟩
   rcases List.mem_cons.1 ((ins_perm x r).mem_iff.1 hz) with rfl | hz
   ·
    rcases tless_total hne with h | h
    ·
     exact absurd h hl
    ·
     exact h
   ·
    exact h1 z hz
theorem sort_perm' : ∀ (l acc : List Lab), (l.foldl (fun a x => ins x a) acc).Perm (acc ++ l) := by
 intro l
 induction l with
 | nil => intro acc; simp
 | cons x r ih =>
  intro acc
  rw [List.foldl_cons]
  exact (ih _).trans (((ins_perm x acc).append_right r).trans List.perm_middle.symm)
theorem sortN_perm (l : List Lab) : (sortN l).Perm l := sort_perm' l []
theorem names_perm {a b : List Lab} (h : a.Perm b) : (names a).Perm (names b) := h.map _
theorem sort_srt' : ∀ (l acc : List Lab), Srt acc → (names (acc ++ l)).Nodup → Srt (l.foldl (fun a x => ins x a) acc) := by
 intro l
 induction l with
 | nil => intro acc h _; exact h
 | cons x r ih =>
  intro acc hs hn
  rw [List.foldl_cons]
  have hp : (acc ++ x :: r).Perm (ins x acc ++ r) := List.perm_middle.trans ((ins_perm x acc).append_right r).symm
  refine ih _ (ins_srt x acc hs fun hm => ?_) ((names_perm hp).nodup_iff.1 hn)
  rw [names_app] at hn
  exact (List.nodup_append.1 hn).2.2 x.1 hm x.1 (by simp [names]) rfl
theorem sortN_srt {l : List Lab} (h : (names l).Nodup) : Srt (sortN l) := sort_srt' l [] List.Pairwise.nil h
theorem srt_unique : ∀ {a b : List Lab}, Srt a → Srt b → a.Perm b → a = b := by
 intro a
 induction a with
 | nil => intro b _ _ h; exact h.symm.eq_nil.symm
 | cons x r ih =>
  intro b ha hb hp
  cases b with
  | nil => exact hp.eq_nil
  | cons y s =>
   obtain ⟨ha1, ha2⟩ := List.pairwise_cons.1 ha
   obtain ⟨hb1, hb2⟩ := List.pairwise_cons.1 hb
   have hxy : x = y := by
    rcases List.mem_cons.1 (hp.mem_iff.1 (List.mem_cons_self)) with h | h
    ·
     exact h
    ·
     rcases List.mem_cons.1 (hp.mem_iff.2 (List.mem_cons_self (a := y) (l := s))) with h' | h'
     ·
      exact h'.symm
     ·
      exact (tless_asymm (ha1 y h') (hb1 x h)).elim
   subst hxy
   rw [ih ha2 hb2 hp.cons_inv]
theorem srt_nodup {l : List Lab} (h : Srt l) : (names l).Nodup := by
 unfold names
 refine List.pairwise_map.2 (h.imp fun {a b} hab e => ?_)
 rw [e, tless_irrefl] at hab; cases hab
def Good (l : List Lab) : Prop := (∀ x ∈ l, good x = true) ∧ (names l).Nodup ∧ (kept l).length ≤ 6
theorem fault_zero {s : List Lab} {x : Lab} : fault s x = 0 ↔ good x = true ∧ x.1 ∉ names s ∧ (x.2 = .empty ∨ (kept s).length ≠ 6) := by
 unfold fault
 by_cases h1 : good x = false
 ·
  simp [h1]
 ·
  by_cases h2 : x.1 ∈ names s
  ·
   simp [h1, h2]
  ·
   by_cases h3 : x.2 = .empty
   ·
    simp [h1, h2, h3]
   ·
    by_cases h4 : (kept s).length = 6 <;> simp [h1, h2, h3, h4]
theorem faults_zero : ∀ (r s : List Lab), Good s → (faults s r = 0 ↔ Good (s ++ r)) := by
 intro r
 induction r with
 | nil => intro s h; simpa [faults] using h
 | cons x r ih =>
  intro s h
  have e : s ++ x :: r = (s ++ [x]) ++ r := by simp
  unfold faults
  by_cases hf : fault s x = 0
  ·
   rw [if_pos hf, e]
   refine ih _ ?_
   obtain ⟨f1, f2, f3⟩ := fault_zero.1 hf
   refine ⟨fun y hy => ?_, ?_, ?_⟩
   ·
    rcases List.mem_append.1 hy with hy | hy
    ·
     exact h.1 y hy
    ·
     simp only [List.mem_cons, List.not_mem_nil, or_false] at hy
     rw [hy]; exact f1
   ·
    rw [names_app]
    refine List.nodup_append.2 ⟨h.2.1, by simp [names], fun a ha b hb e => ?_⟩
    simp only [names, List.map_cons, List.map_nil, List.mem_cons, List.not_mem_nil, or_false] at hb
    rw [e, hb] at ha
    exact f2 ha
   ·
    rw [kept_app, kept_one, List.length_append]
    have := h.2.2
    split
    ·
     simpa using this
    ·
     rename_i hne
     rcases f3 with f3 | f3
     ·
      exact absurd f3 hne
     ·
      show _ + 1 ≤ 6; omega
  ·
   rw [if_neg hf]
   refine ⟨fun h0 => absurd h0 hf, fun hg => absurd (fault_zero.2 ⟨hg.1 x (by simp), ?_, ?_⟩) hf⟩
   ·
    intro hm
    have := hg.2.1
    rw [names_app] at this
    exact (List.nodup_append.1 this).2.2 x.1 hm x.1 (by simp [names]) rfl
   ·
    by_cases hx : x.2 = .empty
    ·
     exact Or.inl hx
    ·
     right
     have := hg.2.2
     rw [e, kept_app, kept_app, kept_one, if_neg hx, List.length_append, List.length_append] at this
     simp only [List.length_cons, List.length_nil] at this
     omega
theorem good_nil : Good [] := ⟨fun _ h => (by cases h), List.nodup_nil, by simp [kept]⟩
theorem faults_iff (l : List Lab) : faults [] l = 0 ↔ Good l := by simpa using faults_zero l [] good_nil
theorem canon_ok {l : List Lab} (h : Good l) (hk : kept l ≠ []) : canonF l = (0, sortN (kept l)) := by
 unfold canonF
 rw [if_pos ((faults_iff l).2 h), if_neg hk]
theorem canon_iff (l : List Lab) : (canonF l).1 = 0 ↔ Good l ∧ kept l ≠ [] := by
 unfold canonF
 by_cases h : faults [] l = 0
 ·
  rw [if_pos h]
  by_cases hk : kept l = []
  ·
   rw [if_pos hk]; simp [hk]
  ·
   rw [if_neg hk]; simp [hk, (faults_iff l).1 h]
 ·
  rw [if_neg h]
  exact ⟨fun e => absurd e h, fun e => absurd ((faults_iff l).2 e.1) h⟩
theorem canon_of {l c : List Lab} (h : canonF l = (0, c)) : Good l ∧ kept l ≠ [] ∧ c = sortN (kept l) := by
 have h1 := (canon_iff l).1 (by rw [h])
 refine ⟨h1.1, h1.2, ?_⟩
 have := canon_ok h1.1 h1.2
 rw [h] at this
 exact (Prod.mk.inj this).2
theorem canon_form {l c : List Lab} (h : canonF l = (0, c)) : c.Perm (kept l) ∧ Srt c ∧ kept c = c ∧ Good c ∧ c ≠ [] := by
 obtain ⟨hg, hk, rfl⟩ := canon_of h
 have hp := sortN_perm (kept l)
 have hnk : (names (kept l)).Nodup := hg.2.1.sublist ((kept_sub l).map _)
 have hs := sortN_srt hnk
 have hkc : kept (sortN (kept l)) = sortN (kept l) := List.filter_eq_self.2 fun x hx => by
  have := (kept_mem.1 (hp.mem_iff.1 hx)).2
  simpa using this
 refine ⟨hp, hs, hkc, ⟨fun x hx => hg.1 x (kept_mem.1 (hp.mem_iff.1 hx)).1, srt_nodup hs, by rw [hkc, hp.length_eq]; exact hg.2.2⟩, fun e => hk ?_⟩
 rw [e] at hp
 exact hp.symm.eq_nil
def oneT (x : Lab) : List Nat := kit.bytes x.1 ++ [61] ++ ([34] ++ escN (kit.bytes x.2) ++ [34])
def behind (l : List Lab) : List Nat := l.flatMap fun x => 44 :: oneT x
def textB (l : List Lab) : List Nat := [123] ++ (behind l).drop 1 ++ [125]
def textF (l : List Lab) : Int × ByteArray :=
 if (canonF l).1 = 0 then (if (canonF l).2 = l then (0, kit.str (textB l)) else (3, .empty)) else ((canonF l).1, .empty)
theorem behind_app (a b : List Lab) : behind (a ++ b) = behind a ++ behind b := by simp [behind]
theorem behind_one (x : Lab) : behind [x] = 44 :: oneT x := by simp [behind]
theorem text_iff {l : List Lab} {s : ByteArray} : textF l = (0, s) ↔ canonF l = (0, l) ∧ s = kit.str (textB l) := by
 unfold textF
 by_cases h : (canonF l).1 = 0
 ·
  rw [if_pos h]
  by_cases h2 : (canonF l).2 = l
  ·
   rw [if_pos h2]
   have : canonF l = (0, l) := Prod.ext h h2
   constructor
   ·
    intro e; exact ⟨this, (Prod.mk.inj e).2.symm⟩
   ·
    rintro ⟨_, rfl⟩; rfl
  ·
   rw [if_neg h2]
   refine ⟨fun e => absurd (Prod.mk.inj e).1 (by decide), fun ⟨e, _⟩ => absurd (by rw [e]) h2⟩
 ·
  rw [if_neg h]
  refine ⟨fun e => absurd (Prod.mk.inj e).1 h, fun ⟨e, _⟩ => absurd (by rw [e]) h⟩
theorem good_len {x : Lab} (h : good x = true) : x.1.size ≤ 16 ∧ 1 ≤ x.1.size ∧ x.2.size ≤ 32 := by
 unfold good at h
 rw [Bool.and_eq_true] at h
 have h1 := of_decide_eq_true h.1
 have h2 := of_decide_eq_true h.2
 exact ⟨h1.2.1, h1.1, h2.1⟩
theorem name_no61 {s : ByteArray} (h : lb.isName s = true) : 61 ∉ kit.bytes s := by
 have hn := (of_decide_eq_true h).2.2
 intro hm
 obtain ⟨i, hi, e⟩ := List.getElem_of_mem hm
 have hi2 : i < s.size := by rw [← kit.bytes_len]; exact hi
 have := hn i hi2
 have e2 : (kit.bytes s).getD i 0 = 61 := by simp [List.getD, hi, e]
 rw [e2] at this
 omega
theorem good_no61 {x : Lab} (h : good x = true) : 61 ∉ kit.bytes x.1 := by
 unfold good at h
 rw [Bool.and_eq_true] at h
 exact name_no61 h.1
theorem esc_lt : ∀ {l : List Nat}, (∀ x ∈ l, x < 256) → ∀ x ∈ escN l, x < 256 := by
 intro l h x hx
 obtain ⟨c, hc, hxc⟩ := List.mem_flatMap.1 hx
 unfold esc1 at hxc
 split at hxc
 ·
  rcases List.mem_cons.1 hxc with rfl | hxc
  ·
   decide
  ·
   simp only [List.mem_cons, List.not_mem_nil, or_false] at hxc
   rw [hxc]; exact h c hc
 ·
  simp only [List.mem_cons, List.not_mem_nil, or_false] at hxc
  rw [hxc]; exact h c hc
theorem oneT_lt (x : Lab) : ∀ y ∈ oneT x, y < 256 := by
 intro y hy
 unfold oneT at hy
 simp only [List.append_assoc, List.cons_append, List.nil_append, List.mem_append, List.mem_cons, List.not_mem_nil, or_false] at hy
 rcases hy with h | rfl | rfl | h | rfl
 ·
  exact kit.bytes_lt _ y h
 ·
  decide
 ·
  decide
 ·
  exact esc_lt (kit.bytes_lt _) y h
 ·
  decide
theorem behind_lt (l : List Lab) : ∀ y ∈ behind l, y < 256 := by
 intro y hy
 obtain ⟨x, _, h⟩ := List.mem_flatMap.1 hy
 rcases List.mem_cons.1 h with rfl | h
 ·
  decide
 ·
  exact oneT_lt x y h
theorem textB_lt (l : List Lab) : ∀ y ∈ textB l, y < 256 := by
 intro y hy
 unfold textB at hy
 simp only [List.cons_append, List.nil_append, List.mem_append, List.mem_cons, List.not_mem_nil, or_false] at hy
 rcases hy with rfl | h | rfl
 ·
  decide
 ·
  exact behind_lt l y (List.mem_of_mem_drop h)
 ·
  decide
theorem cmp_lt : ∀ (a b : List UInt8), Lib.compareBytes a b < 0 ↔ a < b := by
 intro a
 induction a with
 | nil => intro b; cases b <;> simp [Lib.compareBytes]
 | cons x r ih =>
  intro b
  cases b with
  | nil => simp [Lib.compareBytes]
  | cons y s =>
   unfold Lib.compareBytes
   rw [List.cons_lt_cons_iff]
   by_cases h : x < y
   ·
    simp [h]
   ·
    by_cases h2 : y < x
    ·
     have hne : x ≠ y := fun e => by subst e; exact UInt8.lt_irrefl _ h2
     simp [h, h2, hne]
    ·
     have he : x = y := UInt8.le_antisymm (UInt8.not_lt.1 h2) (UInt8.not_lt.1 h)
     subst he
     simp [UInt8.lt_irrefl, ih]
def Is (s : ByteArray) (r : Int × List Lab) : Prop := (600 < s.size ∧ r = (4, [])) ∨ (¬ 600 < s.size ∧ ((∃ l, r = (0, l) ∧ textF l = (0, s)) ∨ (r = (3, []) ∧ ¬ ∃ l, textF l = (0, s))))
end Go.Proofs.YthmnaemcpcdinaaGreat.lm
namespace Go.Proofs.YthmnaemcpcdinaaGreat.lb
open Go Go.Shelf Go.RowKit Go.Lib Go.Sort
def enc (x : ByteArray × ByteArray) : List Value := [.string x.1, .string x.2]
def cf (x y : ByteArray × ByteArray) : Int := Lib.compareBytes x.1.data.toList y.1.data.toList
set_option maxHeartbeats 1000000 in
theorem closure (x y : ByteArray × ByteArray) (W : World) : Calls Tryz.prog 137 #[.agg #[.string x.1, .string x.2], .agg #[.string y.1, .string y.2]] W fun e w' => e = .returned (.int .i64 (cf x y)) ∧ ∃ q os', w' = grow (W.drewN q) os' := by
 have hcon := fun W' => Tryz.strings_Compare x.1 y.1 W'
 unfold cf
 generalize Lib.compareBytes x.1.data.toList y.1.data.toList = r at hcon ⊢
 go_enter Tryz.func137, Tryz.ntmps137
 go_wp2_with (go_at_call 57; refine (hcon _).mono ?_; rintro e w' ⟨rfl, rfl⟩)
 go_ret
 exact ⟨rfl, 0, _, by rw [alloc_eq_grow, alloc_eq_grow, grow_grow]; rfl⟩
theorem cmpLays (blk off size : Nat) (w : World) : CmpLays Tryz.prog 137 #[] enc 2 cf blk off size w :=
 fun _ _ _ _ x y => closure x y _
theorem hlen (n : Nat) (W : World) (h : n ≤ 12) : Calls Tryz.prog 60 #[.int .u64 n] W fun e w' => (∃ l : Int, e = .returned (.int .i64 l)) ∧ w' = W :=
 (Tryz.bits_Len n W (by omega) (by omega)).mono fun _ _ ⟨he, hw⟩ => ⟨⟨_, he⟩, hw⟩
set_option maxHeartbeats 1000000 in
theorem sortFunc (blk off cap : Nat) (d : Array (ByteArray × ByteArray)) (w : World) (hH : HoldsK enc 2 w blk off d) (hblk : blk < w.heap.size) (h12 : d.size ≤ 12) :
  Calls Tryz.prog 136 #[.slice (some ⟨blk, off, none⟩) d.size cap, .func (.func 137) #[] #[]] w fun e w' => e = .returned (.tuple #[]) ∧ ∃ n os, w' = sortWorldK enc 2 w blk off n (Sort.insertionSort (ltOf cf) d 0 d.size) os := by
 have eg : ∀ args w, (callFunc 137 args).run Tryz.prog w = .ok (.enter 137 args) w := enters_of Tryz.func137 (by kernel_rfl) rfl
 have hcon := AnyQ.slices_SortFunc_small Tryz.sortLab 2 Tryz.isAgg91 Tryz.sizeOf91 enc (fun _ => rfl) (fun x v hv => by simp [enc] at hv; rcases hv with rfl | rfl <;> rfl) cf 137 #[] blk off cap d w eg (cmpLays blk off d.size w) hH hblk h12 hlen
 exact hcon
end Go.Proofs.YthmnaemcpcdinaaGreat.lb
namespace Go.Proofs.YthmnaemcpcdinaaGreat.lm
open Go.RowKit Go.Sort Go.Maps
theorem cf_tless (x y : Lab) : ltOf lb.cf x y = tless x.1 y.1 := by
 have h : ltOf lb.cf x y = true ↔ tless x.1 y.1 = true := by
  unfold ltOf lb.cf
  rw [decide_eq_true_iff, cmp_lt, tless_iff, ByteArray.toList_eq, ByteArray.toList_eq]
 exact Bool.eq_iff_iff.2 h
theorem swo : SWO (ltOf lb.cf) where
 irrefl x := by rw [cf_tless, tless_irrefl]
 trans x y z h1 h2 := by rw [cf_tless] at *; exact tless_trans h1 h2
 ntrans x y z h1 h2 := by
  rw [cf_tless] at *
  by_cases e1 : x.1 = y.1
  ·
   rw [e1]; exact h2
  ·
   by_cases e2 : y.1 = z.1
   ·
    rw [← e2]; exact h1
   ·
    have h3 := (tless_total e1).resolve_left (by rw [h1]; exact Bool.false_ne_true)
    have h4 := (tless_total e2).resolve_left (by rw [h2]; exact Bool.false_ne_true)
    cases h : tless x.1 z.1 with
    | false => rfl
    | true => exact (tless_asymm h (tless_trans h4 h3)).elim
theorem sorted_is {l : List Lab} {d : Array Lab} (hn : (names l).Nodup) (hp : PermIn 0 l.toArray.size l.toArray d) (hs : SortedIn (ltOf lb.cf) 0 l.toArray.size d) : d.toList = sortN l := by
 obtain ⟨h1, _, h2⟩ := hp
 have e1 : (d.extract 0 l.toArray.size) = d := by rw [← h1]; simp
 have e2 : (l.toArray.extract 0 l.toArray.size).toList = l := by simp
 rw [e1, e2] at h2
 have hnd : (names d.toList).Nodup := (names_perm h2).nodup_iff.2 hn
 refine srt_unique ?_ (sortN_srt hn) (h2.trans (sortN_perm l).symm)
 unfold Srt
 rw [List.pairwise_iff_getElem]
 intro i j hi hj hij
 have hi' : i < d.size := by simpa using hi
 have hj' : j < d.size := by simpa using hj
 have h3 := hs i j (Nat.zero_le _) hij (by rw [← h1]; exact hj')
 rw [cf_tless, getElem!_pos d j hj', getElem!_pos d i hi'] at h3
 have hne : d[i].1 ≠ d[j].1 := fun e => by
  have h4 := List.pairwise_iff_getElem.1 hnd i j (by simpa [names] using hi') (by simpa [names] using hj') hij
  exact h4 (by simpa [names] using e)
 rw [Array.getElem_toList, Array.getElem_toList]
 exact (tless_total hne).resolve_right (by rw [h3]; exact Bool.false_ne_true)
def MapN (D : DataW Unit) (U : List ByteArray) : Prop := ∀ s, Maps.has D (.string s.data.toList) = decide (s ∈ U)
theorem mapN_nil : MapN (.map []) [] := fun _ => rfl
theorem mapN_put {D : DataW Unit} {U : List ByteArray} {s : ByteArray} (h : MapN D U) (hm : IsMap D) (d : DataW Unit) : MapN (D.put (.string s.data.toList) d) (U ++ [s]) := by
 intro t
 by_cases e : t = s
 ·
  subst e
  rw [has_put_same hm (by trivial)]
  simp
 ·
  rw [has_put_other (fun e2 => e (ByteArray.ext (Array.ext' (by simpa using e2)))), h t]
  simp [e]
end Go.Proofs.YthmnaemcpcdinaaGreat.lm
namespace Go.Proofs.YthmnaemcpcdinaaGreat
open Go.RowKit Go.ChangeShapes Go.Maps Go.WideMaps
theorem two {w w2 : World} {x y : Value} {t : TypeId} (hb : Below (w.alloc (.cells #[x, y] t)).heap.size (w.alloc (.cells #[x, y] t)) w2) :
  w2.cell? ⟨w.heap.size, 0, none⟩ = some x ∧ w2.cell? ⟨w.heap.size, 1, none⟩ = some y ∧ w2.frozen? ⟨w.heap.size, 0, none⟩ = false ∧ w2.frozen? ⟨w.heap.size, 1, none⟩ = false ∧ w.heap.size < w2.heap.size := by
 have hs : w.heap.size < (w.alloc (.cells #[x, y] t)).heap.size := by simp
 have c : ∀ (k : Nat) (u : Value), (#[x, y] : Array Value)[k]? = some u → w2.cell? ⟨w.heap.size, k, none⟩ = some u := fun k u hu =>
  (hb.cell (p := ⟨w.heap.size, k, none⟩) hs).trans (by rw [World.cell?_alloc_at _ _ _ _ rfl]; exact hu)
 have f : ∀ k : Nat, w2.frozen? ⟨w.heap.size, k, none⟩ = false := fun k => (hb.frozen (p := ⟨w.heap.size, k, none⟩) hs).trans (World.frozen?_alloc_at _ _ _ _ rfl)
 exact ⟨c 0 x rfl, c 1 y rfl, f 0, f 1, by have := hb.size; simp at this; omega⟩
theorem mlaw : Keyed Tryz.prog 9 := string_keyed Tryz.underlying9
theorem zeroI (w : World) : (zeroValue 3).run Tryz.prog w = .ok (.int .i64 0) w := by kernel_rfl
theorem look_ok {H : Type} {P : Program} {w : World} {ops : Array Oper} {rest : List Oper} {o : Oper} {a : Act} {Q : Exit → Act → World → Prop} (hg : o.guard = none) (m x : Operand) (t : TypeId) (hop : o.op = Op.lookup t m x true)
  (k e : TypeId) (q : IntKind) (K : Keyed P k) (ht : P.underlying t = some (.map k e)) (he : P.underlying e = some (.int q)) (hz : (zeroValue e).run P w = .ok (.int q 0) w) (b n : Nat) (D : DataW H)
  (hm : a.eval m = .map (some b)) (hown : w.ownsMap P k (plainElem P e) b n D) (key : Value) (kl : Lit) (hx : a.eval x = key) (hkey : keyOf P k key = some kl) (r : Bool) (hr : Maps.has D kl = r)
  (hK : ∀ c : Int, wpList P ops Q rest (a.put o.dst (.tuple #[.int q c, .bool r])) w) : wpList P ops Q (o :: rest) a w :=
 wpList_lookup_own_ok_int w hg m x t hop k e q K ht he hz b n D hm hown key kl hx hkey fun c _ _ => hr ▸ hK c
theorem infoLab : (Tryz.prog.info? 91).map (fun i => (i.zero, i.size, i.bytes)) = some (some (.agg #[.string ⟨#[]⟩, .string ⟨#[]⟩]), 2, 32) := by kernel_rfl
def CanonP (r : Int × List Lab) (w : World) (e : Ending) (w' : World) : Prop := ∃ v, e = .returned (.tuple #[v, .int .i64 r.1]) ∧ Labs w' w'.heap.size v r.2 ∧ Below w.heap.size w w'
theorem lcells_app (a b : List Lab) : lcells (a ++ b) = lcells a ++ lcells b := by simp [lcells]
theorem own_form {w : World} {B n k : Nat} {e : TypeId} {v : Value} {xs : List Value} (h : w.ownsRow B e k v n xs) : (v = .slice none 0 0 ∧ n = 0) ∨ ∃ g cap, v = .slice (some ⟨g, 0, none⟩) n cap ∧ B ≤ g := by
 rcases h.2 with ⟨rfl, hx⟩ | ⟨g, cap, cur, rfl, hbg, _⟩
 ·
  exact Or.inl ⟨rfl, hx⟩
 ·
  exact Or.inr ⟨g, cap, rfl, hbg⟩
end Go.Proofs.YthmnaemcpcdinaaGreat
namespace Go.Proofs.YthmnaemcpcdinaaGreat
open Go Go.RowKit Go.ChangeShapes cl Go.Sort Go.Shelf Go.WideMaps Go.Maps
theorem own_map_keep {w w' : World} {b n : Nat} {D : DataW Unit} (h : w.ownsMap Tryz.prog 24 (plainElem Tryz.prog 3) b n D) (hb : Below w.heap.size w w') : w'.ownsMap Tryz.prog 24 (plainElem Tryz.prog 3) b n D :=
 h.kept (row := none) (grown_below' hb) (by simp)
theorem run_makeMap_no {P : Program} {t : TypeId} (w : World) : (Instr.makeMap t none).run P w = .ok (.map (some w.heap.size)) (w.alloc (.map #[] 0)) := by
 simp [Instr.makeMap]
theorem infoLive : (Tryz.prog.info? 73).map (fun i => (i.zero, i.size, i.bytes)) = some (some (.agg #[.string ⟨#[]⟩, .int .i64 0, .int .i64 0, .int .i64 0]), 4, 40) := by kernel_rfl
theorem Fcts.get {w : World} {B n c : Nat} {ao : Option Addr} {l : List Fct} (h : Fcts w B (.slice ao n c) l) (hn : n = l.length) {j : Nat} (hj : j < n) : ∃ b off ma mn mc la ln lc er st, ao = some ⟨b, off, none⟩ ∧ b < B ∧
  w.cell? ⟨b, off + j * 9, none⟩ = some (.int .i64 (l.getD j default).kd) ∧ w.cell? ⟨b, off + j * 9 + 1, none⟩ = some (.string (l.getD j default).s) ∧ w.cell? ⟨b, off + j * 9 + 2, none⟩ = some (.int .i64 (l.getD j default).d.1) ∧ w.cell? ⟨b, off + j * 9 + 3, none⟩ = some (.int .i64 (l.getD j default).d.2) ∧ w.cell? ⟨b, off + j * 9 + 4, none⟩ = some (.int .i64 (l.getD j default).t) ∧
  w.cell? ⟨b, off + j * 9 + 5, none⟩ = some (.slice ma mn mc) ∧ w.cell? ⟨b, off + j * 9 + 6, none⟩ = some (.slice la ln lc) ∧ w.cell? ⟨b, off + j * 9 + 7, none⟩ = some (.int .i64 er) ∧ w.cell? ⟨b, off + j * 9 + 8, none⟩ = some (.bool st) := by
 obtain ⟨b, off, cs, rfl, hb, _, ⟨ma, mn, mc, la, ln, lc, er, st, rfl⟩, hc⟩ := RowsAt.get h hn hj default
 exact ⟨b, off, ma, mn, mc, la, ln, lc, er, st, rfl, hb, hc 0 _ rfl, hc 1 _ rfl, hc 2 _ rfl, hc 3 _ rfl, hc 4 _ rfl, hc 5 _ rfl, hc 6 _ rfl, hc 7 _ rfl, hc 8 _ rfl⟩
theorem lvcells_snoc (l : List Lv) (x : Lv) : lvcells (l ++ [x]) = lvcells l ++ lcell x := by rw [lvcells_app]; simp [lvcells]
theorem hasD_no {D : DataW Unit} {l : List Dot} {d : Dot} (h : HasD D l) (hd : DWf d) (hn : d ∉ l) : Maps.has D (dkey d) = false := by
 cases e : Maps.has D (dkey d)
 ·
  rfl
 ·
  exact absurd ((h d hd).1 e) hn
def LiveP (l : List Fct) (w : World) (e : Ending) (w' : World) : Prop := ∃ u L, e = .returned u ∧ L.Perm (keepF (goneF l) l) ∧ UpL L ∧ w'.ownsRow w.heap.size 73 4 u L.length (lvcells L) ∧ Below w.heap.size w w'
set_option maxHeartbeats 6400000 in
set_option maxRecDepth 100000 in
theorem live_any (l : List Fct) (v : Value) (w : World) (hl : Fcts w w.heap.size v l) (hwf : ∀ f ∈ l, FWf f) (hlen : l.length ≤ 100000) :
  Calls Tryz.prog 14 #[v] w (LiveP l w) := by
 have hmm := fun (w : World) => run_makeMap_no (P := Tryz.prog) (t := 70) w
 obtain ⟨n, hn⟩ : ∃ n, n = l.length := ⟨_, rfl⟩
 have HN := Lib.hid hn
 obtain ⟨ao, cap, rfl⟩ : ∃ ao cap, v = .slice ao n cap := by
  obtain ⟨ao, cap, e, _⟩ := RowsAt.form' hl hn
  exact ⟨ao, cap, e⟩
 have hn6 : n ≤ 100000 := by omega
 obtain ⟨w2, hw2⟩ : ∃ W, W = (w.alloc (.map #[] 0)).alloc (.map #[] 0) := ⟨_, rfl⟩
 have E2 : Below w.heap.size w w2 := by rw [hw2]; exact below1.alloc (by simp) _
 have hs2 : w2.heap.size = w.heap.size + 2 := by rw [hw2]; simp
 have HM1 : Hid (w2.ownsMap Tryz.prog 24 (plainElem Tryz.prog 3) w.heap.size 0 (.map [] : DataW Unit)) := by
  show World.ownsMap _ _ _ _ _ _ _
  rw [hw2]
  exact (World.ownsMap_made (H := Unit) w Tryz.prog 24 (plainElem Tryz.prog 3)).alloc _
 have HM2 : Hid (w2.ownsMap Tryz.prog 24 (plainElem Tryz.prog 3) (w.heap.size + 1) 0 (.map [] : DataW Unit)) := by
  show World.ownsMap _ _ _ _ _ _ _
  have := World.ownsMap_made (H := Unit) (w.alloc (.map #[] 0)) Tryz.prog 24 (plainElem Tryz.prog 3)
  rw [World.size_alloc] at this
  rw [hw2]; exact this
 have HL := Lib.hid hl
 have HWF : Hid (∀ k, k < n → DWf (l.getD k default).d) := fun k hk => hwf _ (by
  rw [List.getD_eq_getElem?_getD, List.getElem?_eq_getElem (by omega)]
  exact List.getElem_mem _)
 have HE := Lib.hid E2
 have HS := Lib.hid hs2
 have HW := Lib.hid hw2
 clear hl hwf hlen hn E2 hs2 hw2
 go_enter Tryz.func14, Tryz.ntmps14
 go_wp2
 go_step3
 go_wp2
 rw [← HW.out]
 go_loopw [18] (fun i wr => ∃ (k : Nat) (D : DataW Unit), i = .int .i64 k ∧ k ≤ n ∧ Hid (HasD D (goneF (l.take k))) ∧ Hid (wr.ownsMap Tryz.prog 24 (plainElem Tryz.prog 3) w.heap.size k D) ∧ Hid (wr.ownsMap Tryz.prog 24 (plainElem Tryz.prog 3) (w.heap.size + 1) 0 (.map [] : DataW Unit)) ∧ Hid (Below w.heap.size w wr) ∧ w.heap.size + 2 ≤ wr.heap.size) (fun i _ => n - (intOf i).toNat)
 case atStart => exact ⟨0, .map [], rfl, by omega, hasD_nil, HM1.out, HM2.out, HE.out, by have := HS.out; omega⟩
 case round =>
  obtain ⟨k, D, rfl, hk, HH, HO, HO2, HB, hbz⟩ := hrel
  clear HM1 HM2
  by_cases hlt : k < n
  ·
   have hkI : (k : Int) < (n : Int) := by omega
   obtain ⟨bb, off, ma, mn, mc, la, ln, lc, er, st, rfl, hbB, p0, p1, p2, p3, p4, p5, p6, p7, p8⟩ := Fcts.get (RowsAt.next fct_steady HL.out HB.out) HN.out hlt
   have HDK := Lib.hid (HWF.out k hlt)
   obtain ⟨x, hx⟩ : ∃ x, x = l.getD k default := ⟨_, rfl⟩
   rw [← hx] at p0 p1 p2 p3 p4 HDK
   have HX : Hid (l.take (k + 1) = l.take k ++ [x]) := by
    show _ = _
    rw [hx]; exact take_one l k default (by rw [← HN.out]; exact hlt)
   have HKEY : Hid (keyOf Tryz.prog 24 (.agg #[.int .i64 x.d.1, .int .i64 x.d.2]) = some (dkey x.d)) := dkey_of HDK.out
   clear hx
   by_cases h2 : x.kd = 2
   ·
    have h2b : (x.kd == 2) = true := by rw [h2]; rfl
    have HP : Hid (HasD (D.put (dkey x.d) (.lit (.int .i64 k))) (goneF (l.take (k + 1)))) := by
     show HasD _ _
     rw [HX.out, goneF_snoc, if_pos h2]
     exact hasD_put HH.out HO.out.isMap HDK.out _
    have HBA := Lib.hid (HB.out.alloc (by omega) (.cells #[.int .i64 x.kd, .string x.s, .int .i64 x.d.1, .int .i64 x.d.2, .int .i64 x.t, .slice ma mn mc, .slice la ln lc, .int .i64 er, .bool st] 29))
    rw [h2] at p0 HBA
    clear h2 h2b
    go_wp2_with (at_mapUpdate; refine wpList_mapUpdate_own _ rfl _ _ _ 70 rfl 24 3 dkeyed Tryz.underlying70 _ w.heap.size k _ rfl (HO.out.alloc _) (by unfold maxLen; omega) _ _ _ rfl rfl HKEY.out _ [] (plainElem_int Tryz.underlying3 (WalkArith.wf_i64 (by omega))) ?_)
    intro w1 hown1 hgrow1
    have HO1 := Lib.hid hown1
    have HO21 := Lib.hid ((HO2.out.alloc (.cells #[.int .i64 2, .string x.s, .int .i64 x.d.1, .int .i64 x.d.2, .int .i64 x.t, .slice ma mn mc, .slice la ln lc, .int .i64 er, .bool st] 29)).kept hgrow1 (fun e => by have := Option.some.inj e; omega))
    have HB1 := Lib.hid (HBA.out.grown hgrow1 (by simp; omega) (fun j hj => by cases hj; exact Nat.le_refl _))
    have hbz1 : w.heap.size + 2 ≤ w1.heap.size := by have := hgrow1.size; simp at this; omega
    clear hown1 hgrow1 HBA
    go_wp2
    go_roundw
    case rel => exact ⟨k + 1, _, by go_num, by omega, HP, HO1, HO21, HB1, hbz1⟩
    case measure => simp [intOf]; omega
   ·
    have h2b : (x.kd == 2) = false := by simpa using h2
    have HP : Hid (HasD D (goneF (l.take (k + 1)))) := by
     show HasD _ _
     rw [HX.out, goneF_snoc, if_neg h2]
     exact HH.out
    have HO1 := Lib.hid ((HO.out.alloc (.cells #[.int .i64 x.kd, .string x.s, .int .i64 x.d.1, .int .i64 x.d.2, .int .i64 x.t, .slice ma mn mc, .slice la ln lc, .int .i64 er, .bool st] 29)).mono (Nat.le_succ k))
    have HO21 := Lib.hid (HO2.out.alloc (.cells #[.int .i64 x.kd, .string x.s, .int .i64 x.d.1, .int .i64 x.d.2, .int .i64 x.t, .slice ma mn mc, .slice la ln lc, .int .i64 er, .bool st] 29))
    have HB1 := Lib.hid (HB.out.alloc (by omega) (.cells #[.int .i64 x.kd, .string x.s, .int .i64 x.d.1, .int .i64 x.d.2, .int .i64 x.t, .slice ma mn mc, .slice la ln lc, .int .i64 er, .bool st] 29))
    go_wp2
    go_roundw
    case rel => exact ⟨k + 1, _, by go_num, by omega, HP, HO1, HO21, HB1, by simp; omega⟩
    case measure => simp [intOf]; omega
  ·
   have hkn : k = n := by omega
   subst hkn
   have HG : Hid (HasD D (goneF l)) := by
    have := HH.out
    rw [List.take_of_length_le (by rw [← HN.out]; exact Nat.le_refl _)] at this
    exact this
   obtain ⟨G, hG⟩ : ∃ G, G = goneF l := ⟨_, rfl⟩
   have HGE := Lib.hid hG
   rw [← hG] at HG
   clear HH hlt hG HW HE HS
   go_wp2
   go_step3
   go_wp2
   go_loopw [7, 33] (fun s i wx => ∃ (j q : Nat) (oa : Option Addr) (oc : Nat) (D2 : DataW Unit), s = .slice oa q oc ∧ i = .int .i64 j ∧ j ≤ k ∧ q ≤ j ∧ Hid (q = (keepF G (l.take j)).length) ∧ Hid (HasD D2 ((keepF G (l.take j)).map Lv.d)) ∧ Hid (wx.ownsMap Tryz.prog 24 (plainElem Tryz.prog 3) w.heap.size k D) ∧ Hid (wx.ownsMap Tryz.prog 24 (plainElem Tryz.prog 3) (w.heap.size + 1) j D2) ∧ Hid (wx.ownsRow (w.heap.size + 2) 73 4 (.slice oa q oc) q (lvcells (keepF G (l.take j)))) ∧ Hid (Below w.heap.size w wx) ∧ w.heap.size + 2 ≤ wx.heap.size) (fun _ i _ => k - (intOf i).toNat)
   case atStart => exact ⟨0, 0, none, 0, .map [], rfl, rfl, by omega, by omega, rfl, hasD_nil, HO.out, HO2.out, World.ownsRow_nil _ _ _ _, HB.out, hbz⟩
   case round =>
    rename World => wx
    obtain ⟨j, q, oa, oc, D2, rfl, rfl, hj, hqj, HQ, HH2, HO1, HO2, HR, HB, hbz⟩ := hrel
    by_cases hlt : j < k
    ·
     have hjI : (j : Int) < (k : Int) := by omega
     obtain ⟨bb, off, ma, mn, mc, la, ln, lc, er, st, rfl, hbB, p0, p1, p2, p3, p4, p5, p6, p7, p8⟩ := Fcts.get (RowsAt.next fct_steady HL.out HB.out) HN.out hlt
     have HDK := Lib.hid (HWF.out j hlt)
     obtain ⟨x, hx⟩ : ∃ x, x = l.getD j default := ⟨_, rfl⟩
     rw [← hx] at p0 p1 p2 p3 p4 HDK
     have HX : Hid (l.take (j + 1) = l.take j ++ [x]) := by
      show _ = _
      rw [hx]; exact take_one l j default (by rw [← HN.out]; exact hlt)
     have HKEY : Hid (keyOf Tryz.prog 24 (.agg #[.int .i64 x.d.1, .int .i64 x.d.2]) = some (dkey x.d)) := dkey_of HDK.out
     obtain ⟨kd, hkd⟩ : ∃ z, z = x.kd := ⟨_, rfl⟩
     have HKD := Lib.hid hkd
     rw [← hkd] at p0
     obtain ⟨W1, hW1⟩ : ∃ W1, W1 = wx.alloc (.cells #[.int .i64 kd, .string x.s, .int .i64 x.d.1, .int .i64 x.d.2, .int .i64 x.t, .slice ma mn mc, .slice la ln lc, .int .i64 er, .bool st] 29) := ⟨_, rfl⟩
     have hb1 : Below wx.heap.size wx W1 := by rw [hW1]; exact below1
     have y1 : W1.heap[wx.heap.size]? = some (.cells #[.int .i64 kd, .string x.s, .int .i64 x.d.1, .int .i64 x.d.2, .int .i64 x.t, .slice ma mn mc, .slice la ln lc, .int .i64 er, .bool st] 29) := by rw [hW1]; exact heap_alloc_new wx _
     have Y1 := Lib.hid y1
     have HB1 := Lib.hid (HB.out.trans (hb1.mono HB.out.size))
     have HO11 := Lib.hid (own_map_keep HO1.out hb1)
     have HO21 := Lib.hid (own_map_keep HO2.out hb1)
     have HR1 := Lib.hid (own_stay HR.out hb1)
     have hbz1 : w.heap.size + 2 ≤ W1.heap.size := by have := hb1.size; omega
     have HSKIP : Hid (keepB G (keepF G (l.take j)) x = false → keepF G (l.take (j + 1)) = keepF G (l.take j)) := fun h => by
      rw [HX.out, keepF_snoc]; unfold keepS; rw [if_neg (by rw [h]; decide)]
     have HREL : Hid (∀ W, Below W1.heap.size W1 W → keepB G (keepF G (l.take j)) x = false → ∃ (j' q' : Nat) (oa' : Option Addr) (oc' : Nat) (D2' : DataW Unit), (Value.slice oa q oc) = .slice oa' q' oc' ∧ (Value.int .i64 ((j : Int) + 1)) = .int .i64 j' ∧ j' ≤ k ∧ q' ≤ j' ∧ Hid (q' = (keepF G (l.take j')).length) ∧ Hid (HasD D2' ((keepF G (l.take j')).map Lv.d)) ∧ Hid (W.ownsMap Tryz.prog 24 (plainElem Tryz.prog 3) w.heap.size k D) ∧ Hid (W.ownsMap Tryz.prog 24 (plainElem Tryz.prog 3) (w.heap.size + 1) j' D2') ∧ Hid (W.ownsRow (w.heap.size + 2) 73 4 (.slice oa' q' oc') q' (lvcells (keepF G (l.take j')))) ∧ Hid (Below w.heap.size w W) ∧ w.heap.size + 2 ≤ W.heap.size) := fun W hW h => by
      have hs := HSKIP.out h
      refine ⟨j + 1, q, oa, oc, D2, rfl, by go_num, by omega, by omega, ?_, ?_, own_map_keep HO11.out hW, (own_map_keep HO21.out hW).mono (Nat.le_succ j), ?_, HB1.out.trans (hW.mono HB1.out.size), by have := hW.size; omega⟩
      ·
       show _ = _; rw [hs]; exact HQ.out
      ·
       show HasD _ _; rw [hs]; exact HH2.out
      ·
       show World.ownsRow _ _ _ _ _ _ _; rw [hs]; exact own_stay HR1.out hW
     have HW1 := Lib.hid hW1
     clear hx hkd y1 hb1 hW1
     by_cases h1 : kd = 1
     ·
      subst h1
      cases hval : valid x.d
      ·
       have HKB : Hid (keepB G (keepF G (l.take j)) x = false) := by show _ = _; unfold keepB; rw [hval]; simp
       have HV : Hid (Calls Tryz.prog 35 #[.agg #[.int .i64 x.d.1, .int .i64 x.d.2]] W1 (Said false W1)) := by
        have := valid_any x.d W1
        rwa [hval] at this
       clear hval
       go_wp2_with fail
       rw [← HW1.out]
       (with_reducible refine HV.out.mono ?_)
       rintro e w3 ⟨rfl, hb3⟩
       have HF := Lib.hid (HREL.out w3 hb3 HKB.out)
       go_wp2
       go_roundw
       case rel => exact HF.out
       case measure => simp [intOf]; omega
      ·
       have HV : Hid (Calls Tryz.prog 35 #[.agg #[.int .i64 x.d.1, .int .i64 x.d.2]] W1 (Said true W1)) := by
        have := valid_any x.d W1
        rwa [hval] at this
       have HVL := Lib.hid hval
       clear hval
       by_cases hg : x.d ∈ G
       ·
        have HKB : Hid (keepB G (keepF G (l.take j)) x = false) := by show _ = _; unfold keepB; simp [hg]
        have HHG : Hid (Maps.has D (dkey x.d) = true) := (HG.out x.d HDK.out).2 hg
        obtain ⟨b2, hb2⟩ : ∃ b, Maps.has D2 (dkey x.d) = b := ⟨_, rfl⟩
        have HHC := Lib.hid hb2
        clear hg hb2
        go_wp2_with fail
        rw [← HW1.out]
        (with_reducible refine HV.out.mono ?_)
        rintro e w3 ⟨rfl, hb3⟩
        have HF := Lib.hid (HREL.out w3 hb3 HKB.out)
        have y3 := (hb3.block _ (lt_of_block Y1.out)).trans Y1.out
        have z2 := boxc y3 2 _ rfl
        have z3 := boxc y3 3 _ rfl
        have HO13 := Lib.hid (own_map_keep HO11.out hb3)
        have HO23 := Lib.hid (own_map_keep HO21.out hb3)
        clear y3 hb3
        go_wp2_with (at_lookup; first | refine look_ok rfl _ _ 70 rfl 24 3 .i64 dkeyed Tryz.underlying70 Tryz.underlying3 (zeroI _) w.heap.size k D rfl HO13.out _ _ rfl HKEY.out true HHG.out ?_; intro cv | refine look_ok rfl _ _ 70 rfl 24 3 .i64 dkeyed Tryz.underlying70 Tryz.underlying3 (zeroI _) (w.heap.size + 1) j D2 rfl HO23.out _ _ rfl HKEY.out b2 HHC.out ?_; intro cv2)
        go_roundw
        case rel => exact HF.out
        case measure => simp [intOf]; omega
       ·
        have HHG : Hid (Maps.has D (dkey x.d) = false) := hasD_no HG.out HDK.out hg
        by_cases hc : x.d ∈ (keepF G (l.take j)).map Lv.d
        ·
         have HKB : Hid (keepB G (keepF G (l.take j)) x = false) := by show _ = _; unfold keepB; rw [decide_eq_true hc]; simp
         have HHC : Hid (Maps.has D2 (dkey x.d) = true) := (HH2.out x.d HDK.out).2 hc
         clear hg hc
         go_wp2_with fail
         rw [← HW1.out]
         (with_reducible refine HV.out.mono ?_)
         rintro e w3 ⟨rfl, hb3⟩
         have HF := Lib.hid (HREL.out w3 hb3 HKB.out)
         have y3 := (hb3.block _ (lt_of_block Y1.out)).trans Y1.out
         have z2 := boxc y3 2 _ rfl
         have z3 := boxc y3 3 _ rfl
         have HO13 := Lib.hid (own_map_keep HO11.out hb3)
         have HO23 := Lib.hid (own_map_keep HO21.out hb3)
         clear y3 hb3
         go_wp2_with (at_lookup; first | refine look_ok rfl _ _ 70 rfl 24 3 .i64 dkeyed Tryz.underlying70 Tryz.underlying3 (zeroI _) w.heap.size k D rfl HO13.out _ _ rfl HKEY.out false HHG.out ?_; intro cv | refine look_ok rfl _ _ 70 rfl 24 3 .i64 dkeyed Tryz.underlying70 Tryz.underlying3 (zeroI _) (w.heap.size + 1) j D2 rfl HO23.out _ _ rfl HKEY.out true HHC.out ?_; intro cv2)
         go_roundw
         case rel => exact HF.out
         case measure => simp [intOf]; omega
        ·
         have HHC : Hid (Maps.has D2 (dkey x.d) = false) := hasD_no HH2.out HDK.out hc
         have HKP : Hid (keepF G (l.take (j + 1)) = keepF G (l.take j) ++ [⟨x.s, x.d, x.t⟩]) := by
          show _ = _
          rw [HX.out, keepF_snoc]; unfold keepS
          rw [if_pos]
          unfold keepB
          rw [HVL.out, decide_eq_true HKD.out.symm, decide_eq_false hg, decide_eq_false hc]; rfl
         have HPUT : Hid (HasD (D2.put (dkey x.d) (.lit (.int .i64 j))) ((keepF G (l.take (j + 1))).map Lv.d)) := by
          show HasD _ _
          rw [HKP.out, List.map_append]
          exact hasD_put HH2.out HO2.out.isMap HDK.out _
         have HQ2 : Hid (q + 1 = (keepF G (l.take (j + 1))).length) := by show _ = _; rw [HKP.out, List.length_append, ← HQ.out]; rfl
         have HC2 : Hid (lvcells (keepF G (l.take (j + 1))) = lvcells (keepF G (l.take j)) ++ [.string x.s, .int .i64 x.d.1, .int .i64 x.d.2, .int .i64 x.t]) := by show _ = _; rw [HKP.out, lvcells_snoc]; rfl
         clear hg hc HREL HSKIP HVL
         go_wp2_with fail
         rw [← HW1.out]
         (with_reducible refine HV.out.mono ?_)
         rintro e w3 ⟨rfl, hb3⟩
         have y3 := (hb3.block _ (lt_of_block Y1.out)).trans Y1.out
         have Y3 := Lib.hid y3
         have z2 := boxc y3 2 _ rfl
         have z3 := boxc y3 3 _ rfl
         have HO13 := Lib.hid (own_map_keep HO11.out hb3)
         have HO23 := Lib.hid (own_map_keep HO21.out hb3)
         have HR3 := Lib.hid (own_stay HR1.out hb3)
         have HB3 := Lib.hid (HB1.out.trans (hb3.mono HB1.out.size))
         have hbz3 : w.heap.size + 2 ≤ w3.heap.size := by have := hb3.size; omega
         clear y3 hb3
         go_wp2_with (first | (at_lookup; first | refine look_ok rfl _ _ 70 rfl 24 3 .i64 dkeyed Tryz.underlying70 Tryz.underlying3 (zeroI _) w.heap.size k D rfl HO13.out _ _ rfl HKEY.out false HHG.out ?_; intro cv | refine look_ok rfl _ _ 70 rfl 24 3 .i64 dkeyed Tryz.underlying70 Tryz.underlying3 (zeroI _) (w.heap.size + 1) j D2 rfl HO23.out _ _ rfl HKEY.out false HHC.out ?_; intro cv2) | (at_mapUpdate; refine wpList_mapUpdate_own _ rfl _ _ _ 70 rfl 24 3 dkeyed Tryz.underlying70 _ (w.heap.size + 1) j _ rfl HO23.out (by unfold maxLen; omega) _ _ _ rfl rfl HKEY.out _ [] (plainElem_int Tryz.underlying3 (WalkArith.wf_i64 (by omega))) ?_))
         intro w4 hown4 hgrow4
         have h4s := hgrow4.size
         have y4 := (hgrow4.block _ (lt_of_block Y3.out) (fun e => by have := Option.some.inj e; omega)).trans Y3.out
         have v1 := boxc y4 1 _ rfl
         have v2 := boxc y4 2 _ rfl
         have v3 := boxc y4 3 _ rfl
         have v4 := boxc y4 4 _ rfl
         have HO14 := Lib.hid (HO13.out.kept hgrow4 (fun e => by have := Option.some.inj e; omega))
         have HO24 := Lib.hid hown4
         have HR4 := Lib.hid (HR3.out.kept hgrow4 (Or.inr (fun e => row_ne_low HR3.out (by omega) e.symm)))
         have HB4 := Lib.hid (HB3.out.grown hgrow4 (by omega) (fun i hi => by cases hi; omega))
         have hbz4 : w.heap.size + 2 ≤ w4.heap.size := by omega
         clear y4 hown4 hgrow4 h4s
         go_wp2_with (at_builtin; refine app1g (.tmp 69) (.tmp 77) 38 rfl rfl (w.heap.size + 2) Tryz.underlying38 infoLive rfl (by decide) (by decide) HR4.out rfl rfl rfl (by intro u hu; simp at hu; rcases hu with rfl | rfl | rfl | rfl <;> rfl) (by omega) hbz4 ?_)
         intro v' w5 hown5 hgrow5
         have hrA := HR4.out.alloc (.cells #[.string x.s, .int .i64 x.d.1, .int .i64 x.d.2, .int .i64 x.t] 73)
         have HO15 := Lib.hid ((HO14.out.alloc (.cells #[.string x.s, .int .i64 x.d.1, .int .i64 x.d.2, .int .i64 x.t] 73)).kept hgrow5 (row_ne_low HR4.out (by omega)))
         have HO25 := Lib.hid ((HO24.out.alloc (.cells #[.string x.s, .int .i64 x.d.1, .int .i64 x.d.2, .int .i64 x.t] 73)).kept hgrow5 (row_ne_low HR4.out (by omega)))
         have HB5 := Lib.hid ((HB4.out.alloc (by omega) (.cells #[.string x.s, .int .i64 x.d.1, .int .i64 x.d.2, .int .i64 x.t] 73)).trans ((grown_below hrA (by rw [World.size_alloc]; omega) hgrow5).mono (by omega)))
         have hbz5 : w.heap.size + 2 ≤ w5.heap.size := by have := hgrow5.size; simp at this; omega
         obtain ⟨a5, c5, rfl⟩ := own_slice hown5
         have HR5 : Hid (w5.ownsRow (w.heap.size + 2) 73 4 (.slice a5 (q + 1) c5) (q + 1) (lvcells (keepF G (l.take (j + 1))))) := by
          show World.ownsRow _ _ _ _ _ _ _
          rw [HC2.out]; exact hown5
         clear hrA hown5 hgrow5
         go_wp2
         go_roundw
         case rel => exact ⟨j + 1, q + 1, a5, c5, _, rfl, by go_num, by omega, by omega, HQ2, HPUT, HO15, HO25, HR5, HB5, hbz5⟩
         case measure => simp [intOf]; omega
     ·
      have h1b : (kd == 1) = false := by simpa using h1
      have HKB : Hid (keepB G (keepF G (l.take j)) x = false) := by
       show _ = _
       unfold keepB
       rw [decide_eq_false (by rw [← HKD.out]; exact h1)]; rfl
      have HF := Lib.hid (HREL.out W1 (Below.refl _ _) HKB.out)
      rw [HW1.out] at HF
      go_wp2
      go_roundw
      case rel => exact HF.out
      case measure => simp [intOf]; omega
    ·
     have hjk : j = k := by omega
     subst hjk
     have HT : Hid (l.take j = l) := List.take_of_length_le (by rw [← HN.out]; exact Nat.le_refl _)
     have HRT : Hid (wx.ownsRow (w.heap.size + 2) 73 4 (.slice oa q oc) q (lvcells (keepF G l))) := by
      show World.ownsRow _ _ _ _ _ _ _
      have := HR.out
      rw [HT.out] at this; exact this
     have HQT : Hid (q = (keepF G l).length) := by
      show _ = _
      have := HQ.out
      rw [HT.out] at this; exact this
     have HSRT : Hid (Calls Tryz.prog 36 #[.slice oa q oc, .func (.func 37) #[] #[]] wx (ESortA (w.heap.size + 2) q (.slice oa q oc) (keepF G l) wx)) :=
      esort_all _ _ _ _ _ HRT.out HQT.out hbz (by omega)
     clear HR HQ HT hlt
     go_wp2_with fail
     (with_reducible refine HSRT.out.mono ?_)
     rintro e w6 ⟨rfl, L', hp, hsd, hown6, hgrow6⟩
     have HFIN : Hid (LiveP l w (.returned (.slice oa q oc)) w6) := by
      have hnd := (kept_all G l).nodup
      refine ⟨_, L', rfl, by rw [← HGE.out]; exact hp, sorted_up hp hsd hnd, ?_, HB.out.trans ((grown_below HRT.out hbz hgrow6).mono (by omega))⟩
      rw [hp.length_eq, ← HQT.out]
      exact own_base hown6 (by omega)
     clear hp hsd hown6 hgrow6 HSRT
     go_wp2
     go_ret
     exact HFIN.out
end Go.Proofs.YthmnaemcpcdinaaGreat
