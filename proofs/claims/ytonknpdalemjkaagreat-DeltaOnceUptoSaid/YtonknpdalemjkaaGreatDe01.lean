/- texts put together: LabName, LabSame, LabLess, LabOrd, LabEsc, LabMath, OrsMath. -/
import Derived.Test.YtonknpdalemjkaaGreatDe00
import Derived.Laws.RangeAny
import Derived.Lib.Bytealg
import Derived.Lib.OthersKept
import Derived.Sort.LotA
import Derived.Sort.Walk0
import Derived.Test.YtonknpdalemjkaaGreatRows
namespace Go.Proofs.YtonknpdalemjkaaGreat.lb
def NmOk (s : ByteArray) (k : Nat) : Prop := ∀ i, i < k → ((97 ≤ (kit.bytes s).getD i 0 ∧ (kit.bytes s).getD i 0 ≤ 122) ∨ (kit.bytes s).getD i 0 = 95) ∨ (48 ≤ (kit.bytes s).getD i 0 ∧ (kit.bytes s).getD i 0 ≤ 57 ∧ 0 < i)
instance (s : ByteArray) (k : Nat) : Decidable (NmOk s k) := inferInstanceAs (Decidable (∀ i, i < k → _))
def isName (s : ByteArray) : Bool := decide (1 ≤ s.size ∧ s.size ≤ 16 ∧ NmOk s s.size)
def VlOk (s : ByteArray) (k : Nat) : Prop := ∀ i, i < k → 32 ≤ (kit.bytes s).getD i 0 ∧ (kit.bytes s).getD i 0 ≤ 126
instance (s : ByteArray) (k : Nat) : Decidable (VlOk s k) := inferInstanceAs (Decidable (∀ i, i < k → _))
def isVal (s : ByteArray) : Bool := decide (s.size ≤ 32 ∧ VlOk s s.size)
theorem byte_at (s : ByteArray) (k : Nat) (h : k < s.size) : (kit.bytes s).getD k 0 = s[k].toNat := by
 simp only [List.getD, kit.bytes_get s k h, Option.getD_some]
theorem nm_succ {s : ByteArray} {k : Nat} (h : NmOk s k) (h2 : ((97 ≤ (kit.bytes s).getD k 0 ∧ (kit.bytes s).getD k 0 ≤ 122) ∨ (kit.bytes s).getD k 0 = 95) ∨ (48 ≤ (kit.bytes s).getD k 0 ∧ (kit.bytes s).getD k 0 ≤ 57 ∧ 0 < k)) : NmOk s (k + 1) := by
 intro i hi
 by_cases e : i = k
 ·
  subst e; exact h2
 ·
  exact h i (by omega)
theorem vl_succ {s : ByteArray} {k : Nat} (h : VlOk s k) (h2 : 32 ≤ (kit.bytes s).getD k 0 ∧ (kit.bytes s).getD k 0 ≤ 126) : VlOk s (k + 1) := by
 intro i hi
 by_cases e : i = k
 ·
  subst e; exact h2
 ·
  exact h i (by omega)
end Go.Proofs.YtonknpdalemjkaaGreat.lb
namespace Go.Proofs.YtonknpdalemjkaaGreat
open Go.RowKit Go.ChangeShapes
def Said (x : Bool) (w : World) (e : Ending) (w' : World) : Prop := e = .returned (.bool x) ∧ Below w.heap.size w w'
theorem below_drewN {B : Nat} {w w' : World} (h : Below B w w') (n : Nat) : Below B w (w'.drewN n) := by
 induction n with
 | zero => exact h
 | succ n ih => exact ih.drew
set_option maxHeartbeats 3200000 in
set_option maxRecDepth 100000 in
theorem isname_any (s : ByteArray) (w : World) (hs : s.size ≤ maxLen) :
  Calls Tryz.prog 154 #[.string s] w (Said (lb.isName s) w) := by
 unfold maxLen at hs
 have HE : Hid (lb.isName s = decide (1 ≤ s.size ∧ s.size ≤ 16 ∧ lb.NmOk s s.size)) := rfl
 obtain ⟨R, hR⟩ : ∃ R, R = lb.isName s := ⟨_, rfl⟩
 rw [← hR] at HE ⊢
 clear hR
 by_cases h1 : s.size < 1
 ·
  have HR : Hid (R = false) := by show _ = _; rw [HE.out]; exact decide_eq_false (fun h => by omega)
  have h1I : (s.size : Int) < 1 := by omega
  go_enter Tryz.func154, Tryz.ntmps154
  go_wp2
  go_ret
  rw [HR.out]; exact ⟨rfl, Below.refl _ _⟩
 have h1I : ¬ (s.size : Int) < 1 := by omega
 by_cases h2 : 16 < s.size
 ·
  have HR : Hid (R = false) := by show _ = _; rw [HE.out]; exact decide_eq_false (fun h => by omega)
  have h2I : (16 : Int) < (s.size : Int) := by omega
  go_enter Tryz.func154, Tryz.ntmps154
  go_wp2
  go_ret
  rw [HR.out]; exact ⟨rfl, Below.refl _ _⟩
 have h2I : ¬ (16 : Int) < (s.size : Int) := by omega
 have hb0 : Below w.heap.size w (w.iter s 0) := (Below.refl _ _).alloc (Nat.le_refl _) _
 go_enter Tryz.func154, Tryz.ntmps154
 go_wp2
 go_loopw [] (fun wr => ∃ pos : Nat, wr.heap[w.heap.size]? = some (.stringIter s pos) ∧ pos ≤ s.size ∧ Hid (lb.NmOk s pos) ∧ Below w.heap.size w wr) (fun wr => s.size - wr.iterPos w.heap.size)
 case atStart => exact ⟨0, World.iter_heap w s 0, Nat.zero_le _, fun i hi => absurd hi (Nat.not_lt_zero _), hb0⟩
 case round =>
  obtain ⟨pos, hit, hps, HNM, hbl⟩ := hrel
  have hsz : w.heap.size < wr.heap.size := (Array.getElem?_eq_some_iff.1 hit).1
  by_cases hp : pos < s.size
  ·
   have HBT := Lib.hid (lb.byte_at s pos hp)
   by_cases ha : (s[pos]'hp).toNat < 128
   ·
    have hnx : ∀ ty, (Instr.next (.pointer (some ⟨w.heap.size, 0, none⟩)) true ty).run Tryz.prog wr = _ := fun ty => Lib.run_next_ascii_at wr w.heap.size s pos ty hit hp ha
    have hit2 := Lib.iterAt_heap wr w.heap.size s pos (pos + 1) hit
    have hbw2 := Lib.below_iterAt hbl (k := w.heap.size) (by omega) s (pos + 1)
    have HBAD : Hid (¬ (((97 ≤ (s[pos]'hp).toNat ∧ (s[pos]'hp).toNat ≤ 122) ∨ (s[pos]'hp).toNat = 95) ∨ (48 ≤ (s[pos]'hp).toNat ∧ (s[pos]'hp).toNat ≤ 57 ∧ 0 < pos)) → R = false) := fun hn => by
     rw [HE.out]
     refine decide_eq_false (fun h => hn ?_)
     have := h.2.2 pos hp
     rw [HBT.out] at this; exact this
    have HGOOD : Hid ((((97 ≤ (s[pos]'hp).toNat ∧ (s[pos]'hp).toNat ≤ 122) ∨ (s[pos]'hp).toNat = 95) ∨ (48 ≤ (s[pos]'hp).toNat ∧ (s[pos]'hp).toNat ≤ 57 ∧ 0 < pos)) → lb.NmOk s (pos + 1)) := fun hg => lb.nm_succ HNM.out (by rw [HBT.out]; exact hg)
    have HM : Hid (s.size - (wr.iterAt w.heap.size s (pos + 1)).iterPos w.heap.size < s.size - wr.iterPos w.heap.size) := by
     show _ < _
     simp only [World.iterPos, hit2, hit]; omega
    obtain ⟨b, hb⟩ : ∃ b, b = (s[pos]'hp).toNat := ⟨_, rfl⟩
    rw [← hb] at hnx HBAD HGOOD ha
    clear hb
    have hb0I : (0 : Int) ≤ (b : Int) := by omega
    rcases (by omega : (97 ≤ b ∧ b ≤ 122) ∨ b = 95 ∨ (48 ≤ b ∧ b ≤ 57 ∧ 0 < pos) ∨ (48 ≤ b ∧ b ≤ 57 ∧ pos = 0) ∨ b < 48 ∨ (57 < b ∧ b < 97 ∧ b ≠ 95) ∨ 122 < b) with hc | hc | hc | hc | hc | hc | hc
    ·
     have HG := Lib.hid (HGOOD.out (by omega))
     have g0 : (97 : Int) ≤ (b : Int) := by omega
     have g1 : (b : Int) ≤ 122 := by omega
     clear hc
     go_wp2
     go_roundw
     case rel => exact ⟨pos + 1, hit2, by omega, HG.out, hbw2⟩
     case measure => exact HM.out
    ·
     have HG := Lib.hid (HGOOD.out (by omega))
     subst hc
     go_wp2
     go_roundw
     case rel => exact ⟨pos + 1, hit2, by omega, HG.out, hbw2⟩
     case measure => exact HM.out
    ·
     have HG := Lib.hid (HGOOD.out (by omega))
     have g0 : ¬ (97 : Int) ≤ (b : Int) := by omega
     have g1 : ((b : Int) == 95) = false := by simp; omega
     have g2 : (48 : Int) ≤ (b : Int) := by omega
     have g3 : (b : Int) ≤ 57 := by omega
     have g4 : 0 < pos := by omega
     clear hc
     go_wp2
     go_roundw
     case rel => exact ⟨pos + 1, hit2, by omega, HG.out, hbw2⟩
     case measure => exact HM.out
    ·
     have HR := Lib.hid (HBAD.out (by omega))
     have g0 : ¬ (97 : Int) ≤ (b : Int) := by omega
     have g1 : ((b : Int) == 95) = false := by simp; omega
     have g2 : (48 : Int) ≤ (b : Int) := by omega
     have g3 : (b : Int) ≤ 57 := by omega
     have g4 : ¬ 0 < pos := by omega
     clear hc
     go_wp2
     go_ret
     rw [HR.out]; exact ⟨rfl, hbw2⟩
    ·
     have HR := Lib.hid (HBAD.out (by omega))
     have g0 : ¬ (97 : Int) ≤ (b : Int) := by omega
     have g1 : ((b : Int) == 95) = false := by simp; omega
     have g2 : ¬ (48 : Int) ≤ (b : Int) := by omega
     clear hc
     go_wp2
     go_ret
     rw [HR.out]; exact ⟨rfl, hbw2⟩
    ·
     have HR := Lib.hid (HBAD.out (by omega))
     have g0 : ¬ (97 : Int) ≤ (b : Int) := by omega
     have g1 : ((b : Int) == 95) = false := by simp; omega
     have g2 : (48 : Int) ≤ (b : Int) := by omega
     have g3 : ¬ (b : Int) ≤ 57 := by omega
     clear hc
     go_wp2
     go_ret
     rw [HR.out]; exact ⟨rfl, hbw2⟩
    ·
     have HR := Lib.hid (HBAD.out (by omega))
     have g0 : (97 : Int) ≤ (b : Int) := by omega
     have g1 : ¬ (b : Int) ≤ 122 := by omega
     have g2 : ((b : Int) == 95) = false := by simp; omega
     have g3 : (48 : Int) ≤ (b : Int) := by omega
     have g4 : ¬ (b : Int) ≤ 57 := by omega
     clear hc
     go_wp2
     go_ret
     rw [HR.out]; exact ⟨rfl, hbw2⟩
   ·
    have hnx : ∀ ty, (Instr.next (.pointer (some ⟨w.heap.size, 0, none⟩)) true ty).run Tryz.prog wr = _ := fun ty => Lib.run_next_any_at wr w.heap.size s pos ty hit hp
    have hh := (decode_high s pos hp (by omega)).1
    obtain ⟨r, hr⟩ : ∃ r, r = (Utf8.decode s pos).1 := ⟨_, rfl⟩
    obtain ⟨d, hd⟩ : ∃ d, d = (Utf8.decode s pos).2 := ⟨_, rfl⟩
    rw [← hr, ← hd] at hnx
    rw [← hr] at hh
    have hbw2 := Lib.below_iterAt hbl (k := w.heap.size) (by omega) s (pos + d)
    have HR : Hid (R = false) := by
     show _ = _
     rw [HE.out]
     refine decide_eq_false (fun h => ?_)
     have := h.2.2 pos hp
     rw [HBT.out] at this; omega
    have g1 : (97 : Int) ≤ (r : Int) := by omega
    have g2 : ¬ (r : Int) ≤ 122 := by omega
    have g3 : ((r : Int) == 95) = false := by simp; omega
    have g4 : (48 : Int) ≤ (r : Int) := by omega
    have g5 : ¬ (r : Int) ≤ 57 := by omega
    clear hr hd hh
    go_wp2
    go_ret
    rw [HR.out]; exact ⟨rfl, hbw2⟩
  ·
   have hnx : ∀ ty, (Instr.next (.pointer (some ⟨w.heap.size, 0, none⟩)) true ty).run Tryz.prog wr = _ := fun ty => Lib.run_next_end_at wr w.heap.size s pos ty hit hp
   obtain rfl : pos = s.size := by omega
   have HR : Hid (R = true) := by show _ = _; rw [HE.out]; exact decide_eq_true ⟨by omega, by omega, HNM.out⟩
   go_wp2
   go_ret
   rw [HR.out]; exact ⟨rfl, hbl⟩
end Go.Proofs.YtonknpdalemjkaaGreat
namespace Go.Proofs.YtonknpdalemjkaaGreat
open Go.RowKit Go.ChangeShapes cl
theorem str_ne {s t : ByteArray} (h : ¬ s = t) : ¬ s.toList = t.toList := fun e => h (ByteArray.ext (Array.ext' (by rw [← ByteArray.toList_eq, ← ByteArray.toList_eq]; exact e)))
theorem ptake_eq {a b : List Lab} {k : Nat} (hl : a.length = b.length) (hk : k < a.length) (h : a.take k = b.take k) (he : a.getD k (.empty, .empty) = b.getD k (.empty, .empty)) : a.take (k + 1) = b.take (k + 1) := by
 have hb : k < b.length := by omega
 rw [List.take_succ_eq_append_getElem hk, List.take_succ_eq_append_getElem hb, h]
 simp only [List.getD, List.getElem?_eq_getElem hk, List.getElem?_eq_getElem hb, Option.getD_some] at he
 rw [he]
set_option maxHeartbeats 1600000 in
set_option maxRecDepth 100000 in
theorem equal_any (a b : List Lab) (va vb : Value) (w : World) (ha : Labs w w.heap.size va a) (hb : Labs w w.heap.size vb b) :
  Calls Tryz.prog 140 #[va, vb] w (Said (decide (a = b)) w) := by
 obtain ⟨ao, ca, rfl, _, hla⟩ := ha.form
 obtain ⟨bo, cb, rfl, _, hlb⟩ := hb.form
 unfold maxLen at hla hlb
 by_cases hl : a.length = b.length
 ·
  have HL := Lib.hid hl
  have HCA := Lib.hid ha
  have HCB := Lib.hid hb
  obtain ⟨n, hn⟩ : ∃ n, n = a.length := ⟨_, rfl⟩
  have HN := Lib.hid hn
  have HNB : Hid (n = b.length) := hn.trans hl
  rw [← hl]
  rw [← hn] at hla ⊢
  have HCA2 : Hid (Labs w w.heap.size (.slice ao n ca) a) := by show Labs _ _ _ _; rw [HN.out]; exact HCA.out
  have HCB2 : Hid (Labs w w.heap.size (.slice bo n cb) b) := by show Labs _ _ _ _; rw [HNB.out]; exact HCB.out
  clear hlb hl ha hb hn HCA HCB
  go_enter Tryz.func140, Tryz.ntmps140
  go_wp2
  go_loopw [5, 13] (fun _ i wr => ∃ k : Nat, i = .int .i64 k ∧ k ≤ n ∧ Hid (a.take k = b.take k) ∧ Below w.heap.size w wr) (fun _ i _ => n - (intOf i).toNat)
  case atStart => exact ⟨0, rfl, by omega, rfl, Below.refl _ _⟩
  case round =>
   obtain ⟨k, rfl, hk, HT, hbl⟩ := hrel
   by_cases hlt : k < n
   ·
    obtain ⟨ba, oa, rfl, hBa, p0, p1⟩ := Labs.get HCA2.out HN.out hlt
    obtain ⟨bb, ob, rfl, hBb, r0, r1⟩ := Labs.get HCB2.out HNB.out hlt
    have c0 := (hbl.cell (p := ⟨ba, oa + k * 2, none⟩) hBa).trans p0
    have c1 := (hbl.cell (p := ⟨ba, oa + k * 2 + 1, none⟩) hBa).trans p1
    have d0 := (hbl.cell (p := ⟨bb, ob + k * 2, none⟩) hBb).trans r0
    have d1 := (hbl.cell (p := ⟨bb, ob + k * 2 + 1, none⟩) hBb).trans r1
    clear p0 p1 r0 r1
    have hkI : (k : Int) < (n : Int) := by omega
    by_cases he : a.getD k (.empty, .empty) = b.getD k (.empty, .empty)
    ·
     have HT' : Hid (a.take (k + 1) = b.take (k + 1)) := ptake_eq HL.out (by rw [← HN.out]; exact hlt) HT.out he
     rw [← he] at d0 d1
     obtain ⟨⟨x0, x1⟩, hx⟩ : ∃ x, x = a.getD k (.empty, .empty) := ⟨_, rfl⟩
     rw [← hx] at c0 c1 d0 d1
     simp only at c0 c1 d0 d1
     clear hx he
     go_wp2
     go_quiet (fail)
     go_wp2
     go_roundw
     case rel => exact ⟨k + 1, by go_num, by omega, HT', below_drewN hbl _⟩
     case measure => simp [intOf]; omega
    ·
     have HE : Hid (decide (a = b) = false) := decide_eq_false (fun e => he (by rw [e]))
     obtain ⟨⟨x0, x1⟩, hx⟩ : ∃ x, x = a.getD k (.empty, .empty) := ⟨_, rfl⟩
     obtain ⟨⟨y0, y1⟩, hy⟩ : ∃ x, x = b.getD k (.empty, .empty) := ⟨_, rfl⟩
     rw [← hx] at c0 c1
     rw [← hy] at d0 d1
     simp only at c0 c1 d0 d1
     have hne : ¬ (x0 = y0 ∧ x1 = y1) := fun ⟨e0, e1⟩ => he (by rw [← hx, ← hy, e0, e1])
     clear hx hy he
     by_cases h0 : x0 = y0
     ·
      subst h0
      have h1 := str_ne (fun e => hne ⟨rfl, e⟩ : ¬ x1 = y1)
      have h2 : (x1.toList == y1.toList) = false := by simpa using h1
      clear hne
      go_wp2
      go_quiet (fail)
      go_wp2
      go_ret
      rw [HE.out]; exact ⟨rfl, below_drewN hbl _⟩
     ·
      have h1 := str_ne h0
      have h2 : (x0.toList == y0.toList) = false := by simpa using h1
      clear h0
      clear hne
      go_wp2
      go_quiet (fail)
      go_wp2
      go_ret
      rw [HE.out]; exact ⟨rfl, below_drewN hbl _⟩
   ·
    have HE : Hid (decide (a = b) = true) := by
     have := HT.out
     rw [List.take_of_length_le (by rw [← HN.out]; omega), List.take_of_length_le (by rw [← HNB.out]; omega)] at this
     exact decide_eq_true this
    go_wp2
    go_ret
    rw [HE.out]; exact ⟨rfl, hbl⟩
 ·
  have HE : Hid (decide (a = b) = false) := decide_eq_false (fun e => hl (by rw [e]))
  have hne : ((a.length : Int) != (b.length : Int)) = true := by simp; omega
  have hne2 : ((a.length : Int) == (b.length : Int)) = false := by simp; omega
  clear hl ha hb
  go_enter Tryz.func140, Tryz.ntmps140
  go_wp2
  go_ret
  rw [HE.out]; exact ⟨rfl, Below.refl _ _⟩
end Go.Proofs.YtonknpdalemjkaaGreat
namespace Go.Proofs.YtonknpdalemjkaaGreat
open Go.RowKit Go.ChangeShapes cl
def tless (s t : ByteArray) : Bool := Op.bytesLess s.toList t.toList
end Go.Proofs.YtonknpdalemjkaaGreat
namespace Go.Proofs.YtonknpdalemjkaaGreat
theorem tless_iff (s t : ByteArray) : tless s t = true ↔ s.toList < t.toList := by
 unfold tless; rw [bytesLess_eq]; exact decide_eq_true_iff
theorem toList_inj {s t : ByteArray} (h : s.toList = t.toList) : s = t := by
 by_cases e : s = t
 ·
  exact e
 ·
  exact absurd h (str_ne e)
theorem tless_irrefl (s : ByteArray) : tless s s = false := by
 cases h : tless s s
 ·
  rfl
 ·
  exact absurd ((tless_iff s s).1 h) (List.lt_irrefl _)
theorem tless_trans {s t u : ByteArray} (h1 : tless s t = true) (h2 : tless t u = true) : tless s u = true :=
 (tless_iff s u).2 (List.lt_trans ((tless_iff s t).1 h1) ((tless_iff t u).1 h2))
theorem tless_asymm {s t : ByteArray} (h1 : tless s t = true) (h2 : tless t s = true) : False := by
 have := tless_trans h1 h2
 rw [tless_irrefl] at this
 cases this
theorem tless_total {s t : ByteArray} (h : s ≠ t) : tless s t = true ∨ tless t s = true := by
 rw [tless_iff, tless_iff]
 by_cases h1 : s.toList < t.toList
 ·
  exact Or.inl h1
 ·
  refine Or.inr ?_
  by_cases h2 : t.toList < s.toList
  ·
   exact h2
  ·
   exact absurd (toList_inj (List.le_antisymm (List.not_lt.1 h2) (List.not_lt.1 h1))) h
end Go.Proofs.YtonknpdalemjkaaGreat
namespace Go.Proofs.YtonknpdalemjkaaGreat
open Go.RowKit Go.ChangeShapes
theorem infoU8 : (Tryz.prog.info? 5).map (fun i => (i.zero, i.size, i.bytes)) = some (some (.int .u8 0), 1, 1) := by kernel_rfl
def esc1 (c : Nat) : List Nat := if c = 34 ∨ c = 92 then [92, c] else [c]
def escN (l : List Nat) : List Nat := l.flatMap esc1
theorem esc_snoc (l : List Nat) (c : Nat) : escN (l ++ [c]) = escN l ++ esc1 c := by
 simp [escN]
theorem esc_len (l : List Nat) : (escN l).length ≤ 2 * l.length := by
 induction l with
 | nil => simp [escN]
 | cons c l ih =>
  have e : escN (c :: l) = esc1 c ++ escN l := rfl
  have h : (esc1 c).length ≤ 2 := by unfold esc1; split <;> simp
  rw [e, List.length_append, List.length_cons]; omega
theorem bytes_len (s : ByteArray) : (kit.bytes s).length = s.size := by simp [kit.bytes]
theorem take_byte (s : ByteArray) (k : Nat) (h : k < s.size) : (kit.bytes s).take (k + 1) = (kit.bytes s).take k ++ [(s[k]'h).toNat] := by
 have hl : k < (kit.bytes s).length := by rw [bytes_len]; exact h
 rw [List.take_succ_eq_append_getElem hl]
 have := kit.bytes_get s k h
 rw [List.getElem?_eq_getElem hl] at this
 rw [Option.some.inj this]
theorem esc_step (s : ByteArray) (k : Nat) (h : k < s.size) : escN ((kit.bytes s).take (k + 1)) = escN ((kit.bytes s).take k) ++ esc1 ((s[k]'h).toNat) := by
 rw [take_byte s k h, esc_snoc]
def OwnP (B : Nat) (l : List Nat) (w : World) (e : Ending) (w' : World) : Prop := ∃ v', e = .returned v' ∧ w'.ownsRow B 5 1 v' l.length (kit.u8s l) ∧ Below B w w'
set_option maxHeartbeats 1600000 in
set_option maxRecDepth 100000 in
theorem esc_any (B : Nat) (l : List Nat) (v : Value) (s : ByteArray) (w : World) (hown : w.ownsRow B 5 1 v l.length (kit.u8s l)) (hB : B ≤ w.heap.size) (hlen : l.length + 2 * s.size ≤ 100000) :
  Calls Tryz.prog 141 #[v, .string s] w (OwnP B (l ++ escN (kit.bytes s)) w) := by
 obtain ⟨L, hL⟩ : ∃ L, L = l ++ escN (kit.bytes s) := ⟨_, rfl⟩
 rw [← hL]
 have HL := Lib.hid hL
 have hs : s.size ≤ 9223372036854775807 := by omega
 clear hL
 go_enter Tryz.func141, Tryz.ntmps141
 go_wp2
 go_loopw [0, 5, 8] (fun v _ i wr => ∃ (k : Nat) (pre : List Nat), k ≤ s.size ∧ i = .int .i64 k ∧ Hid (pre = l ++ escN ((kit.bytes s).take k)) ∧ pre.length ≤ l.length + 2 * k ∧ wr.ownsRow B 5 1 v pre.length (kit.u8s pre) ∧ Below B w wr)
  (fun _ _ i _ => s.size - (intOf i).toNat)
 case atStart => exact ⟨0, l, Nat.zero_le _, rfl, (by simp [escN] : l = l ++ escN ((kit.bytes s).take 0)), by omega, hown, Below.refl _ _⟩
 case round =>
  obtain ⟨k, pre, hk, rfl, HP, hpl, hown, hnx⟩ := hrel
  have hsz : B ≤ wr.heap.size := Nat.le_trans hB hnx.size
  by_cases hlt : k < s.size
  ·
   have HST := Lib.hid (esc_step s k hlt)
   have hkI : (k : Int) < (s.size : Int) := by omega
   by_cases h34 : (s[k]'hlt).toNat = 34
   ·
    have HP2 : Hid (pre ++ [92] ++ [34] = l ++ escN ((kit.bytes s).take (k + 1))) := by
     show _ = _
     rw [HST.out, HP.out, List.append_assoc, List.append_assoc, esc1, if_pos (by simp [h34]), h34]; rfl
    go_wp2_with (at_builtin; refine kit.app1 (.tmp 21) (.tmp 22) 160 rfl rfl B Tryz.underlying160 infoU8 rfl (by decide) (by decide) hown rfl rfl rfl (by intro u hu; simp at hu; subst hu; rfl) (by omega) hsz ?_)
    intro v1 w1 hown' hb'
    have hown2 : w1.ownsRow B 5 1 v1 (pre ++ [92]).length (kit.u8s (pre ++ [92])) := by simpa [kit.u8s] using hown'
    have hbx : Below B w w1 := hnx.trans hb'
    have hsz1 : B ≤ w1.heap.size := Nat.le_trans hB hbx.size
    have hl2 : (pre ++ [92]).length ≤ l.length + 2 * k + 1 := by simp; omega
    clear hown' hown hb' hnx hsz
    obtain ⟨pre2, hpre2⟩ : ∃ pre2, pre2 = pre ++ [92] := ⟨_, rfl⟩
    rw [← hpre2] at hown2 HP2 hl2
    clear hpre2
    go_wp2_with (at_builtin; refine kit.app1 (.tmp 24) (.tmp 28) 160 rfl rfl B Tryz.underlying160 infoU8 rfl (by decide) (by decide) hown2 rfl rfl rfl (by intro u hu; simp at hu; subst hu; rfl) (by omega) hsz1 ?_)
    intro v2 w2 hown' hb'
    have hown3 : w2.ownsRow B 5 1 v2 (pre2 ++ [34]).length (kit.u8s (pre2 ++ [34])) := by simpa [kit.u8s] using hown'
    clear hown' hown2
    go_wp2
    go_roundw
    case rel => exact ⟨k + 1, pre2 ++ [34], by omega, by go_num, HP2, by simp; omega, hown3, hbx.trans hb'⟩
    case measure => simp [intOf]; omega
   ·
    by_cases h92 : (s[k]'hlt).toNat = 92
    ·
     have HP2 : Hid (pre ++ [92] ++ [92] = l ++ escN ((kit.bytes s).take (k + 1))) := by
      show _ = _
      rw [HST.out, HP.out, List.append_assoc, List.append_assoc, esc1, if_pos (by simp [h92]), h92]; rfl
     go_wp2_with (at_builtin; refine kit.app1 (.tmp 21) (.tmp 22) 160 rfl rfl B Tryz.underlying160 infoU8 rfl (by decide) (by decide) hown rfl rfl rfl (by intro u hu; simp at hu; subst hu; rfl) (by omega) hsz ?_)
     intro v1 w1 hown' hb'
     have hown2 : w1.ownsRow B 5 1 v1 (pre ++ [92]).length (kit.u8s (pre ++ [92])) := by simpa [kit.u8s] using hown'
     have hbx : Below B w w1 := hnx.trans hb'
     have hsz1 : B ≤ w1.heap.size := Nat.le_trans hB hbx.size
     have hl2 : (pre ++ [92]).length ≤ l.length + 2 * k + 1 := by simp; omega
     clear hown' hown hb' hnx hsz
     obtain ⟨pre2, hpre2⟩ : ∃ pre2, pre2 = pre ++ [92] := ⟨_, rfl⟩
     rw [← hpre2] at hown2 HP2 hl2
     clear hpre2
     go_wp2_with (at_builtin; refine kit.app1 (.tmp 24) (.tmp 28) 160 rfl rfl B Tryz.underlying160 infoU8 rfl (by decide) (by decide) hown2 rfl rfl rfl (by intro u hu; simp at hu; subst hu; rfl) (by omega) hsz1 ?_)
     intro v2 w2 hown' hb'
     have hown3 : w2.ownsRow B 5 1 v2 (pre2 ++ [92]).length (kit.u8s (pre2 ++ [92])) := by simpa [kit.u8s] using hown'
     clear hown' hown2
     go_wp2
     go_roundw
     case rel => exact ⟨k + 1, pre2 ++ [92], by omega, by go_num, HP2, by simp; omega, hown3, hbx.trans hb'⟩
     case measure => simp [intOf]; omega
    ·
     have HP2 : Hid (pre ++ [(s[k]'hlt).toNat] = l ++ escN ((kit.bytes s).take (k + 1))) := by
      show _ = _
      rw [HST.out, HP.out, List.append_assoc, esc1, if_neg (by simp [h34, h92])]
     have g1 : ¬ ((s[k]'hlt).toNat : Int) = 34 := by omega
     have g2 : ¬ ((s[k]'hlt).toNat : Int) = 92 := by omega
     have g1b : (((s[k]'hlt).toNat : Int) == 34) = false := by simpa using g1
     have g2b : (((s[k]'hlt).toNat : Int) == 92) = false := by simpa using g2
     go_wp2_with (at_builtin; refine kit.app1 (.tmp 24) (.tmp 28) 160 rfl rfl B Tryz.underlying160 infoU8 rfl (by decide) (by decide) hown rfl rfl rfl (by intro u hu; simp at hu; subst hu; rfl) (by omega) hsz ?_)
     intro v' w1 hown' hb'
     have hown2 : w1.ownsRow B 5 1 v' (pre ++ [(s[k]'hlt).toNat]).length (kit.u8s (pre ++ [(s[k]'hlt).toNat])) := by simpa [kit.u8s] using hown'
     clear hown' hown
     go_wp2
     go_roundw
     case rel => exact ⟨k + 1, pre ++ [(s[k]'hlt).toNat], by omega, by go_num, HP2, by simp; omega, hown2, hnx.trans hb'⟩
     case measure => simp [intOf]; omega
  ·
   obtain rfl : k = s.size := by omega
   have HE : Hid (pre = L) := by
    show pre = L
    rw [HL.out, HP.out, List.take_of_length_le (by rw [bytes_len]; exact Nat.le_refl _)]
   go_wp2
   go_ret
   rw [← HE.out]
   exact ⟨_, rfl, hown, hnx⟩
end Go.Proofs.YtonknpdalemjkaaGreat
namespace Go.Proofs.YtonknpdalemjkaaGreat.lm
open Go.RowKit
def good (x : Lab) : Bool := lb.isName x.1 && lb.isVal x.2
def kept (l : List Lab) : List Lab := l.filter fun x => decide (x.2 ≠ .empty)
def names (l : List Lab) : List ByteArray := l.map fun x => x.1
instance (s : ByteArray) (l : List ByteArray) : Decidable (s ∈ l) := decidable_of_iff (∃ y ∈ l, y = s) ⟨fun ⟨_, h, e⟩ => e ▸ h, fun h => ⟨s, h, rfl⟩⟩
def fault (seen : List Lab) (x : Lab) : Int :=
 if good x = false then 8 else if x.1 ∈ names seen then 8 else if x.2 = .empty then 0 else if (kept seen).length = 6 then 4 else 0
def faults : List Lab → List Lab → Int
 | _, [] => 0
 | seen, x :: r => if fault seen x = 0 then faults (seen ++ [x]) r else fault seen x
def ins (x : Lab) : List Lab → List Lab
 | [] => [x]
 | y :: r => if tless x.1 y.1 = true then x :: y :: r else y :: ins x r
def sortN (l : List Lab) : List Lab := l.foldl (fun a x => ins x a) []
def canonF (l : List Lab) : Int × List Lab :=
 if faults [] l = 0 then (if kept l = [] then (8, []) else (0, sortN (kept l))) else (faults [] l, [])
def Srt (l : List Lab) : Prop := l.Pairwise fun a b => tless a.1 b.1 = true
theorem names_app (a b : List Lab) : names (a ++ b) = names a ++ names b := by simp [names]
theorem kept_app (a b : List Lab) : kept (a ++ b) = kept a ++ kept b := by simp [kept]
theorem kept_one (x : Lab) : kept [x] = if x.2 = .empty then [] else [x] := by
 unfold kept
 by_cases h : x.2 = .empty <;> simp [h]
theorem kept_sub (l : List Lab) : (kept l).Sublist l := List.filter_sublist
theorem kept_mem {l : List Lab} {x : Lab} : x ∈ kept l ↔ x ∈ l ∧ x.2 ≠ .empty := by simp [kept]
theorem ins_perm (x : Lab) : ∀ a : List Lab, (ins x a).Perm (x :: a) := by
 intro a
 induction a with
 | nil => exact List.Perm.refl _
 | cons y r ih =>
  unfold ins
  split
  ·
   exact List.Perm.refl _
  ·
   exact (List.Perm.cons y ih).trans (List.Perm.swap x y r)
theorem ins_srt (x : Lab) : ∀ a : List Lab, Srt a → x.1 ∉ names a → Srt (ins x a) := by
 intro a
 induction a with
 | nil => intro _ _; exact List.pairwise_singleton _ _
 | cons y r ih =>
  intro hs hx
  obtain ⟨h1, h2⟩ := List.pairwise_cons.1 hs
  unfold ins
  split
  ·
   rename_i hl
   exact List.pairwise_cons.2 ⟨fun z hz => by
    rcases List.mem_cons.1 hz with rfl | hz
    ·
     exact hl
    ·
     exact tless_trans hl (h1 z hz), hs⟩
  ·
   rename_i hl
   have hne : x.1 ≠ y.1 := fun e => hx (by simp [names, e])
   have hxr : x.1 ∉ names r := fun e => hx (by simp only [names, List.map_cons, List.mem_cons]; exact Or.inr e)
   refine List.pairwise_cons.2 ⟨fun z hz => ?_, ih h2 hxr⟩
   rcases List.mem_cons.1 ((ins_perm x r).mem_iff.1 hz) with rfl | hz
   ·
    rcases tless_total hne with h | h
    ·
     exact absurd h hl
    ·
     exact h
   ·
    exact h1 z hz
theorem sort_perm' : ∀ (l acc : List Lab), (l.foldl (fun a x => ins x a) acc).Perm (acc ++ l) := by
 intro l
 induction l with
 | nil => intro acc; simp
 | cons x r ih =>
  intro acc
  rw [List.foldl_cons]
  exact (ih _).trans (((ins_perm x acc).append_right r).trans List.perm_middle.symm)
theorem sortN_perm (l : List Lab) : (sortN l).Perm l := sort_perm' l []
theorem names_perm {a b : List Lab} (h : a.Perm b) : (names a).Perm (names b) := h.map _
theorem sort_srt' : ∀ (l acc : List Lab), Srt acc → (names (acc ++ l)).Nodup → Srt (l.foldl (fun a x => ins x a) acc) := by
 intro l
 induction l with
 | nil => intro acc h _; exact h
 | cons x r ih =>
  intro acc hs hn
  rw [List.foldl_cons]
  have hp : (acc ++ x :: r).Perm (ins x acc ++ r) := List.perm_middle.trans ((ins_perm x acc).append_right r).symm
  refine ih _ (ins_srt x acc hs fun hm => ?_) ((names_perm hp).nodup_iff.1 hn)
  rw [names_app] at hn
  exact (List.nodup_append.1 hn).2.2 x.1 hm x.1 (by simp [names]) rfl
theorem sortN_srt {l : List Lab} (h : (names l).Nodup) : Srt (sortN l) := sort_srt' l [] List.Pairwise.nil h
theorem srt_unique : ∀ {a b : List Lab}, Srt a → Srt b → a.Perm b → a = b := by
 intro a
 induction a with
 | nil => intro b _ _ h; exact h.symm.eq_nil.symm
 | cons x r ih =>
  intro b ha hb hp
  cases b with
  | nil => exact hp.eq_nil
  | cons y s =>
   obtain ⟨ha1, ha2⟩ := List.pairwise_cons.1 ha
   obtain ⟨hb1, hb2⟩ := List.pairwise_cons.1 hb
   have hxy : x = y := by
    rcases List.mem_cons.1 (hp.mem_iff.1 (List.mem_cons_self)) with h | h
    ·
     exact h
    ·
     rcases List.mem_cons.1 (hp.mem_iff.2 (List.mem_cons_self (a := y) (l := s))) with h' | h'
     ·
      exact h'.symm
     ·
      exact (tless_asymm (ha1 y h') (hb1 x h)).elim
   subst hxy
   rw [ih ha2 hb2 hp.cons_inv]
theorem srt_nodup {l : List Lab} (h : Srt l) : (names l).Nodup := by
 unfold names
 refine List.pairwise_map.2 (h.imp fun {a b} hab e => ?_)
 rw [e, tless_irrefl] at hab; cases hab
def Good (l : List Lab) : Prop := (∀ x ∈ l, good x = true) ∧ (names l).Nodup ∧ (kept l).length ≤ 6
theorem fault_zero {s : List Lab} {x : Lab} : fault s x = 0 ↔ good x = true ∧ x.1 ∉ names s ∧ (x.2 = .empty ∨ (kept s).length ≠ 6) := by
 unfold fault
 by_cases h1 : good x = false
 ·
  simp [h1]
 ·
  by_cases h2 : x.1 ∈ names s
  ·
   simp [h1, h2]
  ·
   by_cases h3 : x.2 = .empty
   ·
    simp [h1, h2, h3]
   ·
    by_cases h4 : (kept s).length = 6 <;> simp [h1, h2, h3, h4]
theorem faults_zero : ∀ (r s : List Lab), Good s → (faults s r = 0 ↔ Good (s ++ r)) := by
 intro r
 induction r with
 | nil => intro s h; simpa [faults] using h
 | cons x r ih =>
  intro s h
  have e : s ++ x :: r = (s ++ [x]) ++ r := by simp
  unfold faults
  by_cases hf : fault s x = 0
  ·
   rw [if_pos hf, e]
   refine ih _ ?_
   obtain ⟨f1, f2, f3⟩ := fault_zero.1 hf
   refine ⟨fun y hy => ?_, ?_, ?_⟩
   ·
    rcases List.mem_append.1 hy with hy | hy
    ·
     exact h.1 y hy
    ·
     simp only [List.mem_cons, List.not_mem_nil, or_false] at hy
     rw [hy]; exact f1
   ·
    rw [names_app]
    refine List.nodup_append.2 ⟨h.2.1, by simp [names], fun a ha b hb e => ?_⟩
    simp only [names, List.map_cons, List.map_nil, List.mem_cons, List.not_mem_nil, or_false] at hb
    rw [e, hb] at ha
    exact f2 ha
   ·
    rw [kept_app, kept_one, List.length_append]
    have := h.2.2
    split
    ·
     simpa using this
    ·
     rename_i hne
     rcases f3 with f3 | f3
     ·
      exact absurd f3 hne
     ·
      show _ + 1 ≤ 6; omega
  ·
   rw [if_neg hf]
   refine ⟨fun h0 => absurd h0 hf, fun hg => absurd (fault_zero.2 ⟨hg.1 x (by simp), ?_, ?_⟩) hf⟩
   ·
    intro hm
    have := hg.2.1
    rw [names_app] at this
    exact (List.nodup_append.1 this).2.2 x.1 hm x.1 (by simp [names]) rfl
   ·
    by_cases hx : x.2 = .empty
    ·
     exact Or.inl hx
    ·
     right
     have := hg.2.2
     rw [e, kept_app, kept_app, kept_one, if_neg hx, List.length_append, List.length_append] at this
     simp only [List.length_cons, List.length_nil] at this
     omega
theorem good_nil : Good [] := ⟨fun _ h => (by cases h), List.nodup_nil, by simp [kept]⟩
theorem faults_iff (l : List Lab) : faults [] l = 0 ↔ Good l := by simpa using faults_zero l [] good_nil
theorem canon_ok {l : List Lab} (h : Good l) (hk : kept l ≠ []) : canonF l = (0, sortN (kept l)) := by
 unfold canonF
 rw [if_pos ((faults_iff l).2 h), if_neg hk]
theorem canon_iff (l : List Lab) : (canonF l).1 = 0 ↔ Good l ∧ kept l ≠ [] := by
 unfold canonF
 by_cases h : faults [] l = 0
 ·
  rw [if_pos h]
  by_cases hk : kept l = []
  ·
   rw [if_pos hk]; simp [hk]
  ·
   rw [if_neg hk]; simp [hk, (faults_iff l).1 h]
 ·
  rw [if_neg h]
  exact ⟨fun e => absurd e h, fun e => absurd ((faults_iff l).2 e.1) h⟩
theorem canon_of {l c : List Lab} (h : canonF l = (0, c)) : Good l ∧ kept l ≠ [] ∧ c = sortN (kept l) := by
 have h1 := (canon_iff l).1 (by rw [h])
 refine ⟨h1.1, h1.2, ?_⟩
 have := canon_ok h1.1 h1.2
 rw [h] at this
 exact (Prod.mk.inj this).2
theorem canon_form {l c : List Lab} (h : canonF l = (0, c)) : c.Perm (kept l) ∧ Srt c ∧ kept c = c ∧ Good c ∧ c ≠ [] := by
 obtain ⟨hg, hk, rfl⟩ := canon_of h
 have hp := sortN_perm (kept l)
 have hnk : (names (kept l)).Nodup := hg.2.1.sublist ((kept_sub l).map _)
 have hs := sortN_srt hnk
 have hkc : kept (sortN (kept l)) = sortN (kept l) := List.filter_eq_self.2 fun x hx => by
  have := (kept_mem.1 (hp.mem_iff.1 hx)).2
  simpa using this
 refine ⟨hp, hs, hkc, ⟨fun x hx => hg.1 x (kept_mem.1 (hp.mem_iff.1 hx)).1, srt_nodup hs, by rw [hkc, hp.length_eq]; exact hg.2.2⟩, fun e => hk ?_⟩
 rw [e] at hp
 exact hp.symm.eq_nil
def oneT (x : Lab) : List Nat := kit.bytes x.1 ++ [61] ++ ([34] ++ escN (kit.bytes x.2) ++ [34])
def behind (l : List Lab) : List Nat := l.flatMap fun x => 44 :: oneT x
def textB (l : List Lab) : List Nat := [123] ++ (behind l).drop 1 ++ [125]
def textF (l : List Lab) : Int × ByteArray :=
 if (canonF l).1 = 0 then (if (canonF l).2 = l then (0, kit.str (textB l)) else (3, .empty)) else ((canonF l).1, .empty)
theorem behind_app (a b : List Lab) : behind (a ++ b) = behind a ++ behind b := by simp [behind]
theorem behind_one (x : Lab) : behind [x] = 44 :: oneT x := by simp [behind]
theorem text_iff {l : List Lab} {s : ByteArray} : textF l = (0, s) ↔ canonF l = (0, l) ∧ s = kit.str (textB l) := by
 unfold textF
 by_cases h : (canonF l).1 = 0
 ·
  rw [if_pos h]
  by_cases h2 : (canonF l).2 = l
  ·
   rw [if_pos h2]
   have : canonF l = (0, l) := Prod.ext h h2
   constructor
   ·
    intro e; exact ⟨this, (Prod.mk.inj e).2.symm⟩
   ·
    rintro ⟨_, rfl⟩; rfl
  ·
   rw [if_neg h2]
   refine ⟨fun e => absurd (Prod.mk.inj e).1 (by decide), fun ⟨e, _⟩ => absurd (by rw [e]) h2⟩
 ·
  rw [if_neg h]
  refine ⟨fun e => absurd (Prod.mk.inj e).1 h, fun ⟨e, _⟩ => absurd (by rw [e]) h⟩
theorem good_len {x : Lab} (h : good x = true) : x.1.size ≤ 16 ∧ 1 ≤ x.1.size ∧ x.2.size ≤ 32 := by
 unfold good at h
 rw [Bool.and_eq_true] at h
 have h1 := of_decide_eq_true h.1
 have h2 := of_decide_eq_true h.2
 exact ⟨h1.2.1, h1.1, h2.1⟩
theorem name_no61 {s : ByteArray} (h : lb.isName s = true) : 61 ∉ kit.bytes s := by
 have hn := (of_decide_eq_true h).2.2
 intro hm
 obtain ⟨i, hi, e⟩ := List.getElem_of_mem hm
 have hi2 : i < s.size := by rw [← kit.bytes_len]; exact hi
 have := hn i hi2
 have e2 : (kit.bytes s).getD i 0 = 61 := by simp [List.getD, hi, e]
 rw [e2] at this
 omega
theorem good_no61 {x : Lab} (h : good x = true) : 61 ∉ kit.bytes x.1 := by
 unfold good at h
 rw [Bool.and_eq_true] at h
 exact name_no61 h.1
theorem esc_lt : ∀ {l : List Nat}, (∀ x ∈ l, x < 256) → ∀ x ∈ escN l, x < 256 := by
 intro l h x hx
 obtain ⟨c, hc, hxc⟩ := List.mem_flatMap.1 hx
 unfold esc1 at hxc
 split at hxc
 ·
  rcases List.mem_cons.1 hxc with rfl | hxc
  ·
   decide
  ·
   simp only [List.mem_cons, List.not_mem_nil, or_false] at hxc
   rw [hxc]; exact h c hc
 ·
  simp only [List.mem_cons, List.not_mem_nil, or_false] at hxc
  rw [hxc]; exact h c hc
theorem oneT_lt (x : Lab) : ∀ y ∈ oneT x, y < 256 := by
 intro y hy
 unfold oneT at hy
 simp only [List.append_assoc, List.cons_append, List.nil_append, List.mem_append, List.mem_cons, List.not_mem_nil, or_false] at hy
 rcases hy with h | rfl | rfl | h | rfl
 ·
  exact kit.bytes_lt _ y h
 ·
  decide
 ·
  decide
 ·
  exact esc_lt (kit.bytes_lt _) y h
 ·
  decide
theorem behind_lt (l : List Lab) : ∀ y ∈ behind l, y < 256 := by
 intro y hy
 obtain ⟨x, _, h⟩ := List.mem_flatMap.1 hy
 rcases List.mem_cons.1 h with rfl | h
 ·
  decide
 ·
  exact oneT_lt x y h
theorem textB_lt (l : List Lab) : ∀ y ∈ textB l, y < 256 := by
 intro y hy
 unfold textB at hy
 simp only [List.cons_append, List.nil_append, List.mem_append, List.mem_cons, List.not_mem_nil, or_false] at hy
 rcases hy with rfl | h | rfl
 ·
  decide
 ·
  exact behind_lt l y (List.mem_of_mem_drop h)
 ·
  decide
theorem cmp_lt : ∀ (a b : List UInt8), Lib.compareBytes a b < 0 ↔ a < b := by
 intro a
 induction a with
 | nil => intro b; cases b <;> simp [Lib.compareBytes]
 | cons x r ih =>
  intro b
  cases b with
  | nil => simp [Lib.compareBytes]
  | cons y s =>
   unfold Lib.compareBytes
   rw [List.cons_lt_cons_iff]
   by_cases h : x < y
   ·
    simp [h]
   ·
    by_cases h2 : y < x
    ·
     have hne : x ≠ y := fun e => by subst e; exact UInt8.lt_irrefl _ h2
     simp [h, h2, hne]
    ·
     have he : x = y := UInt8.le_antisymm (UInt8.not_lt.1 h2) (UInt8.not_lt.1 h)
     subst he
     simp [UInt8.lt_irrefl, ih]
def Is (s : ByteArray) (r : Int × List Lab) : Prop := (600 < s.size ∧ r = (4, [])) ∨ (¬ 600 < s.size ∧ ((∃ l, r = (0, l) ∧ textF l = (0, s)) ∨ (r = (3, []) ∧ ¬ ∃ l, textF l = (0, s))))
end Go.Proofs.YtonknpdalemjkaaGreat.lm
namespace Go.Proofs.YtonknpdalemjkaaGreat
open Go Go.RowKit Go.ChangeShapes cl
structure Ent where
 s : ByteArray
 d : Dot
 t : Int
instance : Inhabited Ent := ⟨⟨.empty, (0, 0), 0⟩⟩
namespace os
def Fits (s : ByteArray) : Prop := s.size ≤ 600 ∧ ∃ l, lm.textF l = (0, s)
structure Fine (e : Ent) : Prop where
 fit : Fits e.s
 ok : valid e.d = true
 t0 : 0 ≤ e.t
 t1 : e.t ≤ 1000000
def Up (l : List Ent) : Prop := l.Pairwise fun a b => dless a.d b.d = true
end os
def ecell (e : Ent) : List Value := [.string e.s, .int .i64 e.d.1, .int .i64 e.d.2, .int .i64 e.t, .slice none 0 0]
def eval' (e : Ent) : Value := .agg #[.string e.s, .int .i64 e.d.1, .int .i64 e.d.2, .int .i64 e.t, .slice none 0 0]
def ecells (l : List Ent) : List Value := l.flatMap ecell
theorem ecells_cons (x : Ent) (l : List Ent) : ecells (x :: l) = .string x.s :: .int .i64 x.d.1 :: .int .i64 x.d.2 :: .int .i64 x.t :: .slice none 0 0 :: ecells l := rfl
theorem ecells_app (a b : List Ent) : ecells (a ++ b) = ecells a ++ ecells b := by simp [ecells]
theorem ecells_get (l : List Ent) (j : Nat) (h : j < l.length) : (ecells l)[j * 5]? = some (.string (l.getD j default).s) ∧ (ecells l)[j * 5 + 1]? = some (.int .i64 (l.getD j default).d.1) ∧ (ecells l)[j * 5 + 2]? = some (.int .i64 (l.getD j default).d.2) ∧ (ecells l)[j * 5 + 3]? = some (.int .i64 (l.getD j default).t) ∧ (ecells l)[j * 5 + 4]? = some (.slice none 0 0) := by
 induction l generalizing j with
 | nil => simp at h
 | cons x l ih =>
  rw [ecells_cons]
  cases j with
  | zero => exact ⟨rfl, rfl, rfl, rfl, rfl⟩
  | succ j =>
   have := ih j (by simpa using h)
   rw [Nat.succ_mul]
   simpa using this
abbrev Ents (w : World) (B : Nat) (v : Value) (l : List Ent) : Prop := Cells w B v l.length 5 (ecells l)
theorem Ents.get {w : World} {B n c : Nat} {ao : Option Addr} {l : List Ent} (h : Ents w B (.slice ao n c) l) (hn : n = l.length) {j : Nat} (hj : j < n) : ∃ b off, ao = some ⟨b, off, none⟩ ∧ b < B ∧
  w.cell? ⟨b, off + j * 5, none⟩ = some (.string (l.getD j default).s) ∧ w.cell? ⟨b, off + j * 5 + 1, none⟩ = some (.int .i64 (l.getD j default).d.1) ∧ w.cell? ⟨b, off + j * 5 + 2, none⟩ = some (.int .i64 (l.getD j default).d.2) ∧ w.cell? ⟨b, off + j * 5 + 3, none⟩ = some (.int .i64 (l.getD j default).t) ∧ w.cell? ⟨b, off + j * 5 + 4, none⟩ = some (.slice none 0 0) := by
 subst hn
 obtain ⟨_, ao', c', e, _, _, h4⟩ := h
 simp only [Value.slice.injEq] at e
 obtain ⟨rfl, _, rfl⟩ := e
 obtain ⟨b, off, rfl, hB, hc⟩ := h4 (by omega)
 obtain ⟨g0, g1, g2, g3, g4⟩ := ecells_get l j hj
 exact ⟨b, off, rfl, hB, hc _ _ g0, hc _ _ g1, hc _ _ g2, hc _ _ g3, hc _ _ g4⟩
theorem infoEnt : (Tryz.prog.info? 54).map (fun i => (i.zero, i.size, i.bytes)) = some (some (.agg #[.string ⟨#[]⟩, .int .i64 0, .int .i64 0, .int .i64 0, .slice none 0 0]), 5, 64) := by kernel_rfl
end Go.Proofs.YtonknpdalemjkaaGreat
