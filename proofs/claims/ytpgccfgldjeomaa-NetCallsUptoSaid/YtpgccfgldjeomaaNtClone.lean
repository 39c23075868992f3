/- net: slices.Clone at dots, links, texts. -/
import Derived.Test.YtpgccfgldjeomaaNtRows
namespace Go.Proofs.Ytpgccfgldjeomaa
open Go.RowKit Go.ChangeShapes cl
/-- the cells of a slice, whatever they stand for -/
theorem RowsAt.raw {α : Type} {k n cap : Nat} {R : Rel α} {w : World} {B : Nat} {ao : Option Addr} {l : List α} (h : RowsAt k R w B (.slice ao n cap) l) :
    n = l.length ∧ ∃ cs : List (List Value), cs.length = l.length ∧ (∀ (j : Nat) (c : List Value) (x : α), cs[j]? = some c → l[j]? = some x → c.length = k ∧ R w B c x) ∧ cs.flatten.length = n * k ∧ (ao = none → n = 0 ∧ cap = 0) ∧ (∀ ad, ao = some ad → ∀ j u, cs.flatten[j]? = some u → w.cell? (ad.add j) = some u) := by
  have hn : n = l.length := by
    obtain ⟨_, _, e, _, _⟩ := h.form
    simp only [Value.slice.injEq] at e
    exact e.2.1
  obtain ⟨cs, h0, h1, h2⟩ := h
  subst hn
  have h3 := Cells.news' h2
  exact ⟨rfl, cs, h0, h1, h2.1, h3.1, h3.2⟩
/-- what Clone answers -/
def Cloned {α : Type} (T : TypeId) (k : Nat) (R : RelO α) (l : List α) (w : World) (e : Ending) (w' : World) : Prop := ∃ ao n cap, e = .returned (.slice ao n cap) ∧ RowsO w.heap.size T k R w' (.slice ao n cap) l ∧ Below w.heap.size w w'
theorem flat_one {α : Type} {k : Nat} {R : Rel α} {w : World} {B : Nat} {l : List α} {cs : List (List Value)} (h0 : cs.length = l.length) (h1 : ∀ (j : Nat) (c : List Value) (x : α), cs[j]? = some c → l[j]? = some x → c.length = k ∧ R w B c x) (hR : ∀ c x, R w B c x → ∀ u ∈ c, u.oneCell' = true) : ∀ u ∈ cs.flatten, u.oneCell' = true := by
  intro u hu
  obtain ⟨c, hc, huc⟩ := List.mem_flatten.1 hu
  obtain ⟨j, hj, rfl⟩ := List.mem_iff_getElem.1 hc
  exact hR _ l[j] (h1 j _ _ (List.getElem?_eq_getElem hj) (List.getElem?_eq_getElem (by omega))).2 u huc
theorem ninfo_str : (Try.prog.info? 9).map (fun i => (i.zero, i.size, i.bytes)) = some (some (.string ⟨#[]⟩), 1, 16) := by kernel_rfl
theorem ninfo_dot : (Try.prog.info? 57).map (fun i => (i.zero, i.size, i.bytes)) = some (some (.agg #[.int .i64 0, .int .i64 0]), 2, 16) := by kernel_rfl
theorem ninfo_lnk : (Try.prog.info? 95).map (fun i => (i.zero, i.size, i.bytes)) = some (some (.agg #[.int .i64 0, .int .i64 0, .int .i64 0]), 3, 24) := by kernel_rfl

set_option maxHeartbeats 1600000 in
set_option maxRecDepth 100000 in
theorem nclone_str (l : List ByteArray) (v : Value) (w : World) (h : RowsAt 1 strR w w.heap.size v l) (hl : l.length ≤ 1000000000000) : Calls Try.prog 38 #[v] w (Cloned 9 1 strO l w) := by
  obtain ⟨ao, cap, hv, _⟩ := RowsAt.form h
  obtain ⟨n, hn⟩ : ∃ n, n = l.length := ⟨_, rfl⟩
  rw [← hn] at hv
  subst hv
  have hn6 : n ≤ 1000000000000 := by omega
  have q22 : ∀ (w : World) (a : Option Addr) (n c n' c' : Nat), (binOp .eql 31 (.slice a n c) (.slice none n' c')).run Try.prog w = .ok (.bool a.isNone) w := fun w a n c n' c' => Lib.run_eql_slice_nil w _ _ a n c n' c' Try.underlying31
  cases ao with
  | none =>
    have hr := RowsAt.raw h
    obtain ⟨rfl, rfl⟩ : n = 0 ∧ cap = 0 := hr.2.choose_spec.2.2.2.1 rfl
    have HL : Hid (l = []) := List.eq_nil_of_length_eq_zero (by omega)
    clear h hn hl hr
    go_enter Try.func38, Try.ntmps38
    go_wp2
    go_ret
    refine ⟨_, _, _, rfl, ?_, Below.refl _ _⟩
    rw [HL.out]
    exact RowsO.nil _
  | some ad =>
    have hA : Below w.heap.size w (w.alloc (.cells #[] 9)) := (Below.refl _ _).alloc (Nat.le_refl _) _
    obtain ⟨_, cs, h0, h1, hlen, hno, hnw⟩ := RowsAt.raw (RowsAt.next strR_steady h hA)
    have H0 := Lib.hid h0
    have H1 := Lib.hid h1
    have HN := Lib.hid hn
    have HNO := Lib.hid hno
    have HNW := Lib.hid hnw
    have HLN := Lib.hid hlen
    have HONE := Lib.hid (flat_one h0 h1 (fun c x h u hu => by obtain ⟨rfl, _⟩ := h; simp at hu; subst hu; rfl))
    have HO0 : Hid ((w.alloc (.cells #[] 9)).ownsRow w.heap.size 9 1 (.slice (some ⟨w.heap.size, 0, none⟩) 0 0) 0 []) := own_none 9 (Nat.le_refl _) 1
    have HA := Lib.hid hA
    clear h hn hl h0 h1 hlen hno hnw
    go_enter Try.func38, Try.ntmps38
    go_wp2_with (at_builtin; refine kit.appN (.tmp 5) (.tmp 6) 31 rfl rfl w.heap.size Try.underlying31 ninfo_str rfl (by decide) (by decide) HO0.out rfl cs.flatten rfl HLN.out HNO.out HNW.out HONE.out (by omega) (by simp) ?_)
    intro v5 w5 hown5 hb5
    have hb6 := HA.out.trans hb5
    obtain ⟨o5, n5, c5, rfl⟩ := own_slice hown5
    have HR : Hid (RowsO w.heap.size 9 1 strO w5 (.slice o5 n5 c5) l) := ⟨cs, H0.out, fun j c x hc hx => ⟨(H1.out j c x hc hx).1, (H1.out j c x hc hx).2⟩, by simpa using hown5⟩
    clear hown5 hb5
    go_wp2
    go_ret
    exact ⟨_, _, _, rfl, HR.out, hb6⟩

set_option maxHeartbeats 1600000 in
set_option maxRecDepth 100000 in
theorem nclone_dot (l : List cd.D) (v : Value) (w : World) (h : RowsAt 2 dotR w w.heap.size v l) (hl : l.length ≤ 1000000000000) : Calls Try.prog 47 #[v] w (Cloned 57 2 dotO l w) := by
  obtain ⟨ao, cap, hv, _⟩ := RowsAt.form h
  obtain ⟨n, hn⟩ : ∃ n, n = l.length := ⟨_, rfl⟩
  rw [← hn] at hv
  subst hv
  have hn6 : n ≤ 1000000000000 := by omega
  have q22 : ∀ (w : World) (a : Option Addr) (n c n' c' : Nat), (binOp .eql 24 (.slice a n c) (.slice none n' c')).run Try.prog w = .ok (.bool a.isNone) w := fun w a n c n' c' => Lib.run_eql_slice_nil w _ _ a n c n' c' Try.underlying24
  cases ao with
  | none =>
    have hr := RowsAt.raw h
    obtain ⟨rfl, rfl⟩ : n = 0 ∧ cap = 0 := hr.2.choose_spec.2.2.2.1 rfl
    have HL : Hid (l = []) := List.eq_nil_of_length_eq_zero (by omega)
    clear h hn hl hr
    go_enter Try.func47, Try.ntmps47
    go_wp2
    go_ret
    refine ⟨_, _, _, rfl, ?_, Below.refl _ _⟩
    rw [HL.out]
    exact RowsO.nil _
  | some ad =>
    have hA : Below w.heap.size w (w.alloc (.cells #[] 57)) := (Below.refl _ _).alloc (Nat.le_refl _) _
    obtain ⟨_, cs, h0, h1, hlen, hno, hnw⟩ := RowsAt.raw (RowsAt.next dotR_steady h hA)
    have H0 := Lib.hid h0
    have H1 := Lib.hid h1
    have HN := Lib.hid hn
    have HNO := Lib.hid hno
    have HNW := Lib.hid hnw
    have HLN := Lib.hid hlen
    have HONE := Lib.hid (flat_one h0 h1 (fun c x h u hu => by obtain rfl := h; simp at hu; rcases hu with rfl | rfl <;> rfl))
    have HO0 : Hid ((w.alloc (.cells #[] 57)).ownsRow w.heap.size 57 2 (.slice (some ⟨w.heap.size, 0, none⟩) 0 0) 0 []) := own_none 57 (Nat.le_refl _) 2
    have HA := Lib.hid hA
    clear h hn hl h0 h1 hlen hno hnw
    go_enter Try.func47, Try.ntmps47
    go_wp2_with (at_builtin; refine kit.appN (.tmp 5) (.tmp 6) 24 rfl rfl w.heap.size Try.underlying24 ninfo_dot rfl (by decide) (by decide) HO0.out rfl cs.flatten rfl HLN.out HNO.out HNW.out HONE.out (by omega) (by simp) ?_)
    intro v5 w5 hown5 hb5
    have hb6 := HA.out.trans hb5
    obtain ⟨o5, n5, c5, rfl⟩ := own_slice hown5
    have HR : Hid (RowsO w.heap.size 57 2 dotO w5 (.slice o5 n5 c5) l) := ⟨cs, H0.out, fun j c x hc hx => ⟨(H1.out j c x hc hx).1, (H1.out j c x hc hx).2⟩, by simpa using hown5⟩
    clear hown5 hb5
    go_wp2
    go_ret
    exact ⟨_, _, _, rfl, HR.out, hb6⟩

set_option maxHeartbeats 1600000 in
set_option maxRecDepth 100000 in
theorem nclone_lnk (l : List cd.Lk) (v : Value) (w : World) (h : RowsAt 3 lnkR w w.heap.size v l) (hl : l.length ≤ 1000000000000) : Calls Try.prog 51 #[v] w (Cloned 95 3 lnkO l w) := by
  obtain ⟨ao, cap, hv, _⟩ := RowsAt.form h
  obtain ⟨n, hn⟩ : ∃ n, n = l.length := ⟨_, rfl⟩
  rw [← hn] at hv
  subst hv
  have hn6 : n ≤ 1000000000000 := by omega
  have q22 : ∀ (w : World) (a : Option Addr) (n c n' c' : Nat), (binOp .eql 76 (.slice a n c) (.slice none n' c')).run Try.prog w = .ok (.bool a.isNone) w := fun w a n c n' c' => Lib.run_eql_slice_nil w _ _ a n c n' c' Try.underlying76
  cases ao with
  | none =>
    have hr := RowsAt.raw h
    obtain ⟨rfl, rfl⟩ : n = 0 ∧ cap = 0 := hr.2.choose_spec.2.2.2.1 rfl
    have HL : Hid (l = []) := List.eq_nil_of_length_eq_zero (by omega)
    clear h hn hl hr
    go_enter Try.func51, Try.ntmps51
    go_wp2
    go_ret
    refine ⟨_, _, _, rfl, ?_, Below.refl _ _⟩
    rw [HL.out]
    exact RowsO.nil _
  | some ad =>
    have hA : Below w.heap.size w (w.alloc (.cells #[] 95)) := (Below.refl _ _).alloc (Nat.le_refl _) _
    obtain ⟨_, cs, h0, h1, hlen, hno, hnw⟩ := RowsAt.raw (RowsAt.next lnkR_steady h hA)
    have H0 := Lib.hid h0
    have H1 := Lib.hid h1
    have HN := Lib.hid hn
    have HNO := Lib.hid hno
    have HNW := Lib.hid hnw
    have HLN := Lib.hid hlen
    have HONE := Lib.hid (flat_one h0 h1 (fun c x h u hu => by obtain rfl := h; simp at hu; rcases hu with rfl | rfl | rfl <;> rfl))
    have HO0 : Hid ((w.alloc (.cells #[] 95)).ownsRow w.heap.size 95 3 (.slice (some ⟨w.heap.size, 0, none⟩) 0 0) 0 []) := own_none 95 (Nat.le_refl _) 3
    have HA := Lib.hid hA
    clear h hn hl h0 h1 hlen hno hnw
    go_enter Try.func51, Try.ntmps51
    go_wp2_with (at_builtin; refine kit.appN (.tmp 5) (.tmp 6) 76 rfl rfl w.heap.size Try.underlying76 ninfo_lnk rfl (by decide) (by decide) HO0.out rfl cs.flatten rfl HLN.out HNO.out HNW.out HONE.out (by omega) (by simp) ?_)
    intro v5 w5 hown5 hb5
    have hb6 := HA.out.trans hb5
    obtain ⟨o5, n5, c5, rfl⟩ := own_slice hown5
    have HR : Hid (RowsO w.heap.size 95 3 lnkO w5 (.slice o5 n5 c5) l) := ⟨cs, H0.out, fun j c x hc hx => ⟨(H1.out j c x hc hx).1, (H1.out j c x hc hx).2⟩, by simpa using hown5⟩
    clear hown5 hb5
    go_wp2
    go_ret
    exact ⟨_, _, _, rfl, HR.out, hb6⟩
end Go.Proofs.Ytpgccfgldjeomaa
