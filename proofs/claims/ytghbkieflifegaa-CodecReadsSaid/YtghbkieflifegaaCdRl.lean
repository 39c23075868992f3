/- codec: readList at its four types; dot, link, entry. -/
import Derived.Test.YtghbkieflifegaaCdRd
namespace Go.Proofs.Ytghbkieflifegaa
open Go.RowKit Go.ChangeShapes cl

abbrev RelO (α : Type) := World → List Value → α → Prop
def Pst {α : Type} (R : RelO α) (T : TypeId) : Prop := ∀ (w w' : World) (c : List Value) (x : α), R w c x → Kt T w w' → R w' c x
/-- a slice of the call's own, whose elements stand for l -/
def RowsO {α : Type} (B : Nat) (T : TypeId) (k : Nat) (R : RelO α) (w : World) (v : Value) (l : List α) : Prop :=
  ∃ cs : List (List Value), cs.length = l.length ∧ (∀ (j : Nat) (c : List Value) (x : α), cs[j]? = some c → l[j]? = some x → c.length = k ∧ R w c x) ∧ w.ownsRow B T k v l.length cs.flatten
def strO : RelO ByteArray := fun _ c x => c = [.string x] ∧ x.size ≤ maxLen
def dotO : RelO cd.D := fun _ c x => c = [.int .i64 x.1, .int .i64 x.2]
def lnkO : RelO cd.Lk := fun _ c x => c = [.int .i64 x.1, .int .i64 x.2.1, .int .i64 x.2.2]
def entO : RelO cd.Ent := fun w c x => ∃ ao n cap, c = [.string x.s, .int .i64 x.d.1, .int .i64 x.d.2, .int .i64 x.t, .slice ao n cap] ∧ x.s.size ≤ maxLen ∧ RowsO 0 91 3 lnkO w (.slice ao n cap) x.l
theorem strO_pst (T : TypeId) : Pst strO T := fun _ _ _ _ h _ => h
theorem dotO_pst (T : TypeId) : Pst dotO T := fun _ _ _ _ h _ => h
theorem lnkO_pst (T : TypeId) : Pst lnkO T := fun _ _ _ _ h _ => h
section
variable {α : Type} {B k : Nat} {T T' : TypeId} {R : RelO α} {w w' : World} {v : Value} {l : List α}
theorem RowsO.kt (hR : Pst R T') (hne : T ≠ T') (h : RowsO B T k R w v l) (hk : Kt T' w w') : RowsO B T k R w' v l := by
  obtain ⟨cs, h0, h1, h2⟩ := h
  exact ⟨cs, h0, fun j c x hc hx => ⟨(h1 j c x hc hx).1, hR _ _ _ _ (h1 j c x hc hx).2 hk⟩, own_kt h2 hk hne⟩
theorem RowsO.base (h : RowsO B T k R w v l) : RowsO 0 T k R w v l := by
  obtain ⟨cs, h0, h1, h2⟩ := h
  exact ⟨cs, h0, h1, own_base h2 (Nat.zero_le _)⟩
theorem RowsO.form (h : RowsO B T k R w v l) : ∃ ao n cap, v = .slice ao n cap := by
  obtain ⟨cs, h0, h1, h2⟩ := h
  exact own_slice h2
theorem RowsO.nil (w : World) : RowsO B T k R w (.slice none 0 0) [] := ⟨[], rfl, fun j c x hc => by simp at hc, World.ownsRow_nil _ _ _ _⟩
theorem RowsO.snoc {x : α} {c : List Value} {v' : Value} {cs : List (List Value)} (h0 : cs.length = l.length) (h1 : ∀ (j : Nat) (c : List Value) (x : α), cs[j]? = some c → l[j]? = some x → c.length = k ∧ R w c x)
    (hk : Kt T w w') (hR : Pst R T) (hc : c.length = k) (hx : R w c x) (hown : w'.ownsRow B T k v' (l.length + 1) (cs.flatten ++ c)) : RowsO B T k R w' v' (l ++ [x]) := by
  refine ⟨cs ++ [c], by simp [h0], fun j c' x' hc' hx' => ?_, ?_⟩
  · rcases Nat.lt_or_ge j cs.length with h | h
    · rw [List.getElem?_append_left h] at hc'
      rw [List.getElem?_append_left (by omega)] at hx'
      exact ⟨(h1 j c' x' hc' hx').1, hR _ _ _ _ (h1 j c' x' hc' hx').2 hk⟩
    · have hj : j = cs.length := by
        have := (List.getElem?_eq_some_iff.1 hc').1
        simp at this; omega
      subst hj
      rw [List.getElem?_append_right (Nat.le_refl _), Nat.sub_self] at hc'
      rw [List.getElem?_append_right (by omega), h0, Nat.sub_self] at hx'
      cases hc'
      cases hx'
      exact ⟨hc, hR _ _ _ _ hx hk⟩
  · rw [List.length_append, List.flatten_append, List.flatten_cons, List.flatten_nil, List.append_nil]
    exact hown
end
theorem entO_pst {T : TypeId} (hT : 91 ≠ T) : Pst entO T := fun _ _ _ _ ⟨ao, n, cap, h, hs, hr⟩ hk => ⟨ao, n, cap, h, hs, hr.kt (lnkO_pst _) hT hk⟩
theorem Rd.kt {p : Nat} {s : ByteArray} {a : Nat} {T : TypeId} {w w' : World} (h : Rd p s a w) (hk : Kt T w w') (hT : 69 ≠ T) : Rd p s a w' := by
  refine (hk.keep p (lt_of_block h) (fun cur fr e => ?_)).trans h
  have := h.symm.trans e
  simp only [Option.some.injEq, Obj.cells.injEq] at this
  exact hT this.2.1
theorem Kt.reader {p : Nat} {s : ByteArray} {a : Nat} {w w' : World} (h : Rd p s a w) (hg : w.grownBy w' (some p)) : Kt 69 w w' := Kt.of_grown hg h
theorem Kt.append {T : TypeId} {B k n : Nat} {v : Value} {xs : List Value} {w w' : World} (h : w.ownsRow B T k v n xs) (hg : w.grownBy w' v.ownBlock) : Kt T w w' := by
  rcases h.2 with ⟨rfl, _⟩ | ⟨g, cap, cur, rfl, hb, hgg, _⟩
  · exact ⟨hg.size, fun q hq _ => hg.block q hq (by simp [Value.ownBlock])⟩
  · exact Kt.of_grown hg hgg
theorem grown_append {k n : Nat} {T : TypeId} {v : Value} {xs : List Value} {w w1 w2 : World} {p : Nat} (h : w.grownBy w1 (some p)) (ho : w1.ownsRow w.heap.size T k v n xs) (hg : w1.grownBy w2 v.ownBlock) : w.grownBy w2 (some p) := by
  refine ⟨hg.os.trans h.os, hg.tape.trans h.tape, hg.output.trans h.output, Nat.le_trans h.size hg.size, fun q hq hp => ?_⟩
  refine (hg.block q (Nat.lt_of_lt_of_le hq h.size) (fun e => ?_)).trans (h.block q hq hp)
  have := (ho.lt q e.symm).1
  omega
theorem info_str : (Try.prog.info? 9).map (fun i => (i.zero, i.size, i.bytes)) = some (some (.string ⟨#[]⟩), 1, 16) := by kernel_rfl
theorem info_dot : (Try.prog.info? 47).map (fun i => (i.zero, i.size, i.bytes)) = some (some (.agg #[.int .i64 0, .int .i64 0]), 2, 16) := by kernel_rfl
theorem info_lnk : (Try.prog.info? 91).map (fun i => (i.zero, i.size, i.bytes)) = some (some (.agg #[.int .i64 0, .int .i64 0, .int .i64 0]), 3, 24) := by kernel_rfl
theorem info_ent : (Try.prog.info? 50).map (fun i => (i.zero, i.size, i.bytes)) = some (some (.agg #[.string ⟨#[]⟩, .int .i64 0, .int .i64 0, .int .i64 0, .slice none 0 0]), 5, 64) := by kernel_rfl

theorem strO_pst' (T : TypeId) (_ : 9 ≠ 1000000) : Pst strO T := strO_pst T
theorem dotO_pst' (T : TypeId) (_ : 9 ≠ 1000000) : Pst dotO T := dotO_pst T
theorem lnkO_pst' (T : TypeId) (_ : 9 ≠ 1000000) : Pst lnkO T := lnkO_pst T
theorem entO_pst' (T : TypeId) (hT : 91 ≠ T) : Pst entO T := entO_pst hT

set_option maxHeartbeats 1600000 in
set_option maxRecDepth 100000 in
theorem rl_string (p : Nat) (s : ByteArray) (a : Nat) (w : World) (h : Rd p s a w) (hs : s.size ≤ 1099511627776) :
    Calls Try.prog 33 #[.pointer (some ⟨p, 0, none⟩), .func (.func 32) #[] #[]] w (Reads p s (cd.lstR (kit.bytes s) (cd.txtR (kit.bytes s)) a) (fun w v l => RowsO 0 9 1 strO w v l) w) := by
  have HN := Lib.hid (number_any p s a w h hs)
  have HR4 : Hid (∀ W : World, Calls Try.prog 34 #[.int .i64 4] W fun e' w' => e' = refusal (4 : Nat) ∧ w' = W) := fun W => refuse_n _ (by omega) W
  have HD := Lib.hid h
  clear h
  go_enter Try.func33, Try.ntmps33
  go_wp2_with fail
  (with_reducible refine HN.out.mono ?_)
  rintro e w1 h
  rcases h.cases with ⟨n, a1, v, hr, rfl, rfl, ha1, hd1, hg1⟩ | ⟨c, hr, hc, rfl, hg1⟩
  · by_cases h4 : 4000 < n
    · have h4i : (4000 : Int) < (n : Int) := by omega
      have HE : Hid (cd.lstR (kit.bytes s) (cd.txtR (kit.bytes s)) a = .error 4) := by
        show _ = _
        unfold cd.lstR
        rw [cd.seqR_ok hr, if_pos h4]
      have HG1 := Lib.hid hg1
      clear h hr hd1 hg1 h4 HN
      go_wp2_with fail
      (with_reducible refine (HR4.out _).mono ?_)
      rintro e w2 ⟨rfl, rfl⟩
      exact ⟨rfl, Reads.fail HG1.out HE.out (by omega)⟩
    · have h4i : ¬ (4000 : Int) < (n : Int) := by omega
      have HE : Hid (cd.lstR (kit.bytes s) (cd.txtR (kit.bytes s)) a = cd.repR (cd.txtR (kit.bytes s)) n a1) := by
        show _ = _
        unfold cd.lstR
        rw [cd.seqR_ok hr, if_neg h4]
      have HG1 := Lib.hid hg1
      have HD1 := Lib.hid hd1
      have hz := hg1.size
      clear h hr hd1 hg1 HN
      go_wp2
      go_loopw [6, 13, 21] (fun v i _ wr => ∃ (k b : Nat) (l : List ByteArray) (ao : Option Addr) (m cap : Nat), v = .slice ao m cap ∧ i = .int .i64 k ∧ k ≤ n ∧ b ≤ s.size ∧ Hid (cd.repR (cd.txtR (kit.bytes s)) k a1 = .ok (l, b)) ∧ Hid (Rd p s b wr) ∧ Hid (w.grownBy wr (some p)) ∧ Hid (RowsO w.heap.size 9 1 strO wr (.slice ao m cap) l)) (fun _ i _ _ => n - (intOf i).toNat)
      case atStart => exact ⟨0, a1, [], none, 0, 0, rfl, rfl, by omega, ha1, rfl, HD1.out, HG1.out, RowsO.nil _⟩
      case round =>
        obtain ⟨k, b, l, ao, m, cap, rfl, rfl, hk, hb, HA, HRd, HG, HO⟩ := hrel
        by_cases hlt : k < n
        · have hkI : (k : Int) < (n : Int) := by omega
          have HC := Lib.hid (rtext_any p s b wr HRd.out hs)
          go_wp2_with fail
          (with_reducible refine HC.out.mono ?_)
          rintro e w2 h
          rcases h.cases with ⟨x, b2, v, hr, rfl, hE, hb2, hd2, hg2⟩ | ⟨c, hr, hc, rfl, hg2⟩
          · obtain ⟨rfl, hsz⟩ := hE
            have hE : strO w2 [.string x] x := ⟨rfl, by unfold maxLen; omega⟩
            have HA' : Hid (cd.repR (cd.txtR (kit.bytes s)) (k + 1) a1 = .ok (l ++ [x], b2)) := cd.repR_one HA.out hr
            have hG2 := grown_trans HG.out hg2
            obtain ⟨cs, e0, e1, hown⟩ := HO.out.kt (strO_pst' _ (by decide)) (by decide) (Kt.reader HRd.out hg2)
            have hlen := cd.repR_len HA.out
            have hbl : Below w2.heap.size w2 (w2.alloc (.cells #[.string x] 9)) := below1
            have hml : l.length ≤ 4000 := by omega
            have HLL := Lib.hid hlen
            have HE0 := Lib.hid e0
            have HE1 := Lib.hid e1
            have HD2 := Lib.hid hd2
            have HG2 := Lib.hid hG2
            have HEE := Lib.hid hE
            have hz2 : w.heap.size ≤ w2.heap.size := hG2.size
            clear h hr hd2 hg2 hG2 e0 e1 HC hlen hE
            go_wp2_with (at_builtin; refine app1g (.tmp 15) (.tmp 19) 30 rfl rfl w.heap.size Try.underlying30 info_str rfl (by decide) (by decide) hown rfl rfl rfl (by intro u hu; simp at hu; subst hu; rfl) (by omega) hz2 ?_)
            intro v' w3 hown' hg3
            have hoA := World.ownsRow.alloc hown (.cells #[.string x] 9)
            have hkA : Kt 9 (w2.alloc (.cells #[.string x] 9)) w3 := Kt.append hoA hg3
            have hkB : Kt 9 w2 w3 := (Kt.of_below hbl).trans hkA
            have HO' : Hid (RowsO w.heap.size 9 1 strO w3 v' (l ++ [x])) := RowsO.snoc (c := [.string x]) HE0.out HE1.out hkB (strO_pst' _ (by decide)) rfl HEE.out (by simpa using hown')
            have HD3 : Hid (Rd p s b2 w3) := HD2.out.kt hkB (by decide)
            have HG3 : Hid (w.grownBy w3 (some p)) := grown_append (grown_trans HG2.out (grown_below' hbl)) hoA hg3
            obtain ⟨o3, m3, c3, rfl⟩ := own_slice hown'
            clear hown' hown hg3 hoA hkA hkB hbl HEE
            go_wp2
            go_roundw
            case rel => exact ⟨k + 1, b2, l ++ [x], o3, m3, c3, rfl, by go_num, by omega, hb2, HA', HD3, HG3, HO'⟩
            case measure => simp [intOf]; omega
          · exact ⟨rfl, Reads.fail (grown_trans HG.out hg2) (by rw [HE.out]; exact cd.repR_bad HA.out hr hlt) hc⟩
        · have HEa : Hid (cd.lstR (kit.bytes s) (cd.txtR (kit.bytes s)) a = .ok (l, b)) := by
            show _ = _
            obtain rfl : k = n := by omega
            rw [HE.out]; exact HA.out
          go_wp2
          go_ret
          exact Reads.done HG.out HEa.out (RowsO.base HO.out) hb HRd.out
  · refine ⟨rfl, Reads.fail hg1 ?_ hc⟩
    unfold cd.lstR
    exact cd.seqR_err hr
end Go.Proofs.Ytghbkieflifegaa
