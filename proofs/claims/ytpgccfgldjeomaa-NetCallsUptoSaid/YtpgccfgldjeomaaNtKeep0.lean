/- net's law: messages of the call's own, told apart by types; what it calls, of them. -/
import Derived.Test.YtpgccfgldjeomaaNtFull
import Derived.Test.YtpgccfgldjeomaaAt
import Derived.Test.YtpgccfgldjeomaaAppZ
namespace Go.Proofs.Ytpgccfgldjeomaa
open Go Go.RowKit Go.ChangeShapes cl
theorem infoInt : (Try.prog.info? 3).map (fun i => (i.zero, i.size, i.bytes)) = some (some (.int .i64 0), 1, 8) := by kernel_rfl
/-- messages of the call's own -/
def MsgsF (w0 w : World) (v : Value) (n : Nat) (cs : List (List Value)) (L : List cd.Msg) : Prop :=
  cs.length = L.length ∧ (∀ (j : Nat) (c : List Value) (x : cd.Msg), cs[j]? = some c → L[j]? = some x → MsgF w0.heap.size w c x) ∧ w.ownsRow w0.heap.size 34 16 v n cs.flatten ∧ n = L.length
section
variable {w0 w w' : World} {v : Value} {n : Nat} {cs : List (List Value)} {L : List cd.Msg}
theorem MsgsF.kt {T : TypeId} (h : MsgsF w0 w v n cs L) (hk : Kt T w w') (h1 : 95 ≠ T) (h2 : 78 ≠ T) (h3 : 57 ≠ T) (h4 : 9 ≠ T) (h5 : 34 ≠ T) : MsgsF w0 w' v n cs L :=
  ⟨h.1, fun j c x hc hx => (h.2.1 j c x hc hx).kt hk h1 h2 h3 h4, own_kt h.2.2.1 hk h5, h.2.2.2⟩
theorem MsgsF.ints (h : MsgsF w0 w v n cs L) (hk : Kt 3 w w') : MsgsF w0 w' v n cs L := h.kt hk (by decide) (by decide) (by decide) (by decide) (by decide)
theorem MsgsF.next (h : MsgsF w0 w v n cs L) (hb : Below w.heap.size w w') : MsgsF w0 w' v n cs L := h.ints (Kt.of_below hb)
theorem MsgsF.elt (h : MsgsF w0 w v n cs L) : ∀ (j : Nat) (c : List Value) (x : cd.Msg), cs[j]? = some c → L[j]? = some x → c.length = 16 ∧ msgRel w w.heap.size c x :=
  fun j c x hc hx => ⟨(msg_one _ _ (h.2.1 j c x hc hx).at).1, (h.2.1 j c x hc hx).at⟩
theorem MsgsF.cells (h : MsgsF w0 w v n cs L) : Cells w w.heap.size v L.length 16 cs.flatten := by
  have := Cells.own h.2.2.1
  rwa [h.2.2.2] at this
theorem MsgsF.rows (h : MsgsF w0 w v n cs L) : RowsAt 16 msgRel w w.heap.size v L := ⟨cs, h.1, h.elt, h.cells⟩
theorem MsgsF.nil (w : World) : MsgsF w w (.slice none 0 0) 0 [] [] := ⟨rfl, fun j c x hc => by simp at hc, World.ownsRow_nil _ _ _ _, rfl⟩
end
/-- an answer of messages of the call's own, with the code 0 -/
def LstF (w0 : World) (L : List cd.Msg) (w : World) (e : Ending) (w' : World) : Prop :=
  ∃ ao n cap cs, e = .returned (.tuple #[.slice ao n cap, .int .i64 0]) ∧ MsgsF w0 w' (.slice ao n cap) n cs L ∧ Below w.heap.size w w'
theorem send_f (w0 : World) (L : List cd.Msg) (m : cd.Msg) (v : Value) (n : Nat) (cs : List (List Value)) (c : List Value) (w : World) (hz : w0.heap.size ≤ w.heap.size) (h : MsgsF w0 w v n cs L) (hm : msgRel w w.heap.size c m) (hf : Fit m) (hl : L.length < 600) :
    Calls Try.prog 9 #[v, .agg c.toArray] w (LstF w0 (L ++ [m]) w) := by
  refine (send_cs cs L m v c w h.1 h.elt h.cells hm hf hl).mono ?_
  rintro e w' ⟨hb, g, cap, c', he, hM, ho⟩
  refine ⟨_, _, _, cs ++ [c'], he, ⟨by simp [h.1], ?_, ?_, by rw [List.length_append]; rfl⟩, hb⟩
  · exact snoc_rows (P := fun c x => MsgF w0.heap.size w' c x) h.1 (h.next hb).2.1 (hM.low hz)
  · rw [List.flatten_append, List.flatten_cons, List.flatten_nil, List.append_nil]
    exact own_base ho hz
/-- what Take answers where there is such a message -/
def TkF (w0 : World) (L : List cd.Msg) (k : Nat) (w : World) (e : Ending) (w' : World) : Prop :=
  ∃ ao n cap cs c', e = .returned (.tuple #[.slice ao n cap, .agg (List.toArray c'), .int .i64 0]) ∧ MsgsF w0 w' (.slice ao n cap) n cs (L.take k ++ L.drop (k + 1)) ∧ msgRel w' w'.heap.size c' (L.getD k default) ∧ Below w.heap.size w w'
theorem take_f (w0 : World) (L : List cd.Msg) (v : Value) (n : Nat) (cs : List (List Value)) (k : Nat) (w : World) (hz : w0.heap.size ≤ w.heap.size) (h : MsgsF w0 w v n cs L) (hl : L.length ≤ 600) (hf : ∀ x ∈ L, Fit x) (hk : k < L.length) :
    Calls Try.prog 11 #[v, .int .i64 (k : Int)] w (TkF w0 L k w) := by
  refine (take_cs cs L v k w h.1 h.elt h.cells hk hl hf).mono ?_
  rintro e w' ⟨hb, g, cap, c', he, hr, ho, hm⟩
  refine ⟨_, _, _, cs.take k ++ cs.drop (k + 1), c', he, ⟨?_, cut_rows (P := fun c x => MsgF w0.heap.size w' c x) (h.next hb).2.1 k, ?_, ?_⟩, hm, hb⟩
  · rw [List.length_append, List.length_append, List.length_take, List.length_take, List.length_drop, List.length_drop, h.1]
  · rw [List.flatten_append]
    exact own_base ho hz
  · rw [List.length_append, List.length_take, List.length_drop]; omega
set_option maxHeartbeats 3200000 in
set_option maxRecDepth 100000 in
theorem lose_f (w0 : World) (L : List cd.Msg) (v : Value) (n : Nat) (cs : List (List Value)) (k : Nat) (w : World) (hz : w0.heap.size ≤ w.heap.size) (h : MsgsF w0 w v n cs L) (hl : L.length ≤ 600) (hf : ∀ x ∈ L, Fit x) (hk : k < L.length) :
    Calls Try.prog 13 #[v, .int .i64 (k : Int)] w (LstF w0 (L.take k ++ L.drop (k + 1)) w) := by
  have HT := Lib.hid (take_f w0 L v n cs k w hz h hl hf hk)
  obtain ⟨ao, cap, rfl, hnc, hnm⟩ := h.rows.form
  obtain ⟨n', hn⟩ : ∃ n, n = L.length := ⟨_, rfl⟩
  rw [← hn] at HT ⊢
  clear h hn hnc hnm hz hl hf hk
  go_enter Try.func13, Try.ntmps13
  go_wp2_with fail
  (with_reducible refine HT.out.mono ?_)
  rintro e w1 ⟨o1, m1, q1, cs1, c', rfl, hr, hm, hb1⟩
  have HR := Lib.hid hr
  obtain ⟨mm, hmm⟩ : ∃ x, x = L.getD k default := ⟨_, rfl⟩
  rw [← hmm] at hm
  obtain ⟨ae, ne, ce, aa, na, ca, p1, n1, c1, p2, n2, c2, p3, n3, c3, p4, n4, c4, sa, sn, sc, rfl, hm'⟩ := hm
  clear hr hm' hmm
  go_wp2
  exact bodyPost_ret (v := .tuple #[.slice o1 m1 q1, .int .i64 0]) (by simp [results, Try.results13, go_sem]) rfl ⟨_, _, _, cs1, rfl, HR.out.next below1, hb1.trans (below1.mono hb1.size)⟩
set_option maxHeartbeats 3200000 in
set_option maxRecDepth 100000 in
theorem twice_f (w0 : World) (L : List cd.Msg) (v : Value) (n : Nat) (cs : List (List Value)) (k : Nat) (w : World) (hz : w0.heap.size ≤ w.heap.size) (h : MsgsF w0 w v n cs L) (hl : L.length < 600) (hf : ∀ x ∈ L, Fit x) (hk : k < L.length) :
    Calls Try.prog 15 #[v, .int .i64 (k : Int)] w (LstF w0 (L ++ [L.getD k default]) w) := by
  obtain ⟨n', hn⟩ : ∃ n, n = L.length := ⟨_, rfl⟩
  obtain ⟨ao, cap, rfl, hnc, hnm⟩ := h.rows.form' hn
  unfold maxLen at hnm
  have hkn : k < n' := by omega
  obtain ⟨b0, off, c, rfl, hR, hcell⟩ := rows_cells h.rows hn hkn (m := L.getD k default) rfl
  have HT := Lib.hid (there_yes (some ⟨b0, off, none⟩) n' cap k w hkn)
  have HS := Lib.hid (send_f w0 L (L.getD k default) (.slice (some ⟨b0, off, none⟩) n' cap) n cs c w hz h hR (hf _ (by
      rw [List.getD_eq_getElem?_getD, List.getElem?_eq_getElem hk]
      exact List.getElem_mem _)) hl)
  obtain ⟨mm, hmm⟩ : ∃ x, x = L.getD k default := ⟨_, rfl⟩
  have HMM := Lib.hid hmm
  rw [← hmm] at hR HS ⊢
  obtain ⟨ae, ne, ce, aa, na, ca, p1, n1, c1, p2, n2, c2, p3, n3, c3, p4, n4, c4, sa, sn, sc, rfl, hR'⟩ := hR
  have s0 : w.cell? ⟨b0, off + k * 16, none⟩ = some (.int .i64 mm.k) := hcell w (Below.refl _ _) 0 _ rfl
  have s1 : w.cell? ⟨b0, off + k * 16 + 1, none⟩ = some (.int .i64 mm.f) := hcell w (Below.refl _ _) 1 _ rfl
  have s2 : w.cell? ⟨b0, off + k * 16 + 2, none⟩ = some (.int .i64 mm.to) := hcell w (Below.refl _ _) 2 _ rfl
  have s3 : w.cell? ⟨b0, off + k * 16 + 3, none⟩ = some (.int .i64 mm.g) := hcell w (Below.refl _ _) 3 _ rfl
  have s4 : w.cell? ⟨b0, off + k * 16 + 4, none⟩ = some (.int .i64 mm.n) := hcell w (Below.refl _ _) 4 _ rfl
  have s5 : w.cell? ⟨b0, off + k * 16 + 5, none⟩ = some (.slice ae ne ce) := hcell w (Below.refl _ _) 5 _ rfl
  have s6 : w.cell? ⟨b0, off + k * 16 + 6, none⟩ = some (.slice aa na ca) := hcell w (Below.refl _ _) 6 _ rfl
  have s7 : w.cell? ⟨b0, off + k * 16 + 7, none⟩ = some (.slice p1 n1 c1) := hcell w (Below.refl _ _) 7 _ rfl
  have s8 : w.cell? ⟨b0, off + k * 16 + 8, none⟩ = some (.slice p2 n2 c2) := hcell w (Below.refl _ _) 8 _ rfl
  have s9 : w.cell? ⟨b0, off + k * 16 + 9, none⟩ = some (.slice p3 n3 c3) := hcell w (Below.refl _ _) 9 _ rfl
  have s10 : w.cell? ⟨b0, off + k * 16 + 10, none⟩ = some (.slice p4 n4 c4) := hcell w (Below.refl _ _) 10 _ rfl
  have s11 : w.cell? ⟨b0, off + k * 16 + 11, none⟩ = some (.int .i64 mm.ki) := hcell w (Below.refl _ _) 11 _ rfl
  have s12 : w.cell? ⟨b0, off + k * 16 + 12, none⟩ = some (.string mm.mn) := hcell w (Below.refl _ _) 12 _ rfl
  have s13 : w.cell? ⟨b0, off + k * 16 + 13, none⟩ = some (.string mm.mv) := hcell w (Below.refl _ _) 13 _ rfl
  have s14 : w.cell? ⟨b0, off + k * 16 + 14, none⟩ = some (.slice sa sn sc) := hcell w (Below.refl _ _) 14 _ rfl
  have s15 : w.cell? ⟨b0, off + k * 16 + 15, none⟩ = some (.int .i64 mm.er) := hcell w (Below.refl _ _) 15 _ rfl
  clear hk hR' hmm hcell hf hn h hl hz
  go_enter Try.func15, Try.ntmps15
  go_wp2_with fail
  (with_reducible refine HT.out.mono ?_)
  rintro e w1 ⟨rfl, rfl⟩
  go_wp2_with fail
  (with_reducible refine HS.out.mono ?_)
  rintro e w2 ⟨o, m', c', cs', rfl, hM, hb⟩
  have HM := Lib.hid hM
  clear hM
  go_wp2
  exact bodyPost_ret (v := .tuple #[.slice o m' c', .int .i64 0]) (by simp [results, Try.results15, go_sem]) rfl ⟨_, _, _, cs', rfl, HM.out, hb⟩
/-- what is held behind some calls: the messages, and the numbers that they were made of -/
def KeepS (w0 w : World) (k : Nat) (la : Option Addr) (n lc : Nat) (wa : Option Addr) (wc : Nat) (Z : List Int) : Prop :=
  (∃ cs, MsgsF w0 w (.slice la n lc) n cs (Z.map msgN)) ∧ w.ownsRow w0.heap.size 3 1 (.slice wa n wc) n (at_.i64s Z) ∧ n = Z.length ∧ n ≤ k ∧ (∀ z ∈ Z, 0 ≤ z ∧ z < 1000) ∧ Below w0.heap.size w0 w
section
variable {w0 w w' : World} {k : Nat} {la : Option Addr} {n lc : Nat} {wa : Option Addr} {wc : Nat} {Z : List Int}
theorem KeepS.next (h : KeepS w0 w k la n lc wa wc Z) (hb : Below w.heap.size w w') : KeepS w0 w' k la n lc wa wc Z := by
  obtain ⟨⟨cs, h1⟩, h2, h3, h4, h5, h6⟩ := h
  exact ⟨⟨cs, h1.next hb⟩, own_stay h2 hb, h3, h4, h5, h6.trans (hb.mono h6.size)⟩
theorem KeepS.fit (_ : KeepS w0 w k la n lc wa wc Z) : ∀ x ∈ Z.map msgN, Fit x := by
  intro x hx
  obtain ⟨z, _, rfl⟩ := List.mem_map.1 hx
  exact fit_msgN z
theorem KeepS.rows (h : KeepS w0 w k la n lc wa wc Z) : RowsAt 16 msgRel w w.heap.size (.slice la n lc) (Z.map msgN) := h.1.choose_spec.rows
theorem KeepS.len (h : KeepS w0 w k la n lc wa wc Z) : n = (Z.map msgN).length := by rw [List.length_map]; exact h.2.2.1
theorem KeepS.num (h : KeepS w0 w k la n lc wa wc Z) {q : Nat} (hq : q < n) : 0 ≤ Z.getD q 0 ∧ Z.getD q 0 < 1000 ∧ (Z.map msgN).getD q default = msgN (Z.getD q 0) := by
  obtain ⟨h1, h2, h3, h4, h5, h6⟩ := h
  have hz : q < Z.length := by omega
  have e : Z.getD q 0 = Z[q] := by simp [List.getD, hz]
  have := h5 _ (List.getElem_mem hz)
  rw [← e] at this
  refine ⟨this.1, this.2, ?_⟩
  rw [e]; simp [List.getD, hz]
/-- where the numbers lie -/
theorem KeepS.cell (h : KeepS w0 w k la n lc wa wc Z) {q : Nat} (hq : q < n) : ∃ g, wa = some ⟨g, 0, none⟩ ∧ n ≤ wc ∧ ∀ W, Below w.heap.size w W → ∀ (j : Nat) u, (at_.i64s Z)[j]? = some u → W.cell? ⟨g, j, none⟩ = some u := by
  obtain ⟨h1, h2, h3, h4, h5, h6⟩ := h
  rcases h2.2 with ⟨e, hx⟩ | ⟨g, cap, cur, e, hbg, hg, hnc, hcm, hcs, htake⟩
  · simp only [Value.slice.injEq] at e
    omega
  · simp only [Value.slice.injEq, true_and] at e
    obtain ⟨rfl, rfl⟩ := e
    refine ⟨g, rfl, hnc, fun W hW j u hj => ?_⟩
    have := h2.cells (g := g) rfl j u hj
    rw [Addr.add_lit, Nat.zero_add] at this
    exact (hW.cell (lt_of_block hg)).trans this
theorem KeepS.at' (h : KeepS w0 w k la n lc wa wc Z) {q : Nat} (hq : q < n) : ∃ g, wa = some ⟨g, 0, none⟩ ∧ ∀ W, Below w.heap.size w W → W.cell? ⟨g, q, none⟩ = some (.int .i64 (Z.getD q 0)) := by
  obtain ⟨g, e, _, hc⟩ := h.cell hq
  have h3 := h.2.2.1
  have hz : q < Z.length := by omega
  refine ⟨g, e, fun W hW => hc W hW q _ ?_⟩
  simp [at_.i64s, List.getD, hz]
theorem KeepS.first (w : World) : KeepS w w 0 none 0 0 none 0 [] := ⟨⟨[], MsgsF.nil w⟩, World.ownsRow_nil _ _ _ _, rfl, Nat.le_refl _, (fun z hz => by cases hz), Below.refl _ _⟩
/-- one more behind -/
theorem KeepS.snoc {z : Int} {w3 wx : World} {a3 : Option Addr} {q3 : Nat} {cs : List (List Value)} {wax : Option Addr} {cx : Nat} (h : KeepS w0 w k la n lc wa wc Z) (hb : Below w.heap.size w w3) (hz : 0 ≤ z ∧ z < 1000) (hM : MsgsF w0 w3 (.slice a3 (n + 1) q3) (n + 1) cs (Z.map msgN ++ [msgN z])) (hk : Kt 3 w3 wx) (ho : wx.ownsRow w0.heap.size 3 1 (.slice wax (n + 1) cx) (n + 1) (at_.i64s Z ++ at_.i64s [z])) (hbx : Below w0.heap.size w3 wx) :
    KeepS w0 wx (k + 1) a3 (n + 1) q3 wax cx (Z ++ [z]) := by
  obtain ⟨_, _, h3, h4, h5, h6⟩ := h
  refine ⟨⟨cs, ?_⟩, ?_, by rw [List.length_append, ← h3]; rfl, by omega, ?_, (h6.trans (hb.mono h6.size)).trans hbx⟩
  · rw [List.map_append]; exact hM.ints hk
  · rw [at_.i64s_app]; exact ho
  · intro y hy
    rcases List.mem_append.1 hy with h | h
    · exact h5 y h
    · rw [List.mem_singleton.1 h]; exact hz
end
theorem own_form4 {w : World} {B n k : Nat} {e : TypeId} {v : Value} {xs : List Value} (h : w.ownsRow B e k v n xs) : ∃ ao cap, v = .slice ao n cap := by
  obtain ⟨ao, cap, e, _⟩ := (Cells.own h).form
  exact ⟨ao, cap, e⟩
theorem app_int {w3 wx : World} {B n : Nat} {v : Value} {xs : List Value} {cs : Array Value} {t : TypeId} (h : w3.ownsRow B 3 1 v n xs) (hB : B ≤ w3.heap.size) (hg : (w3.alloc (.cells cs t)).grownBy wx v.ownBlock) : Kt 3 w3 wx ∧ Below B w3 wx := by
  have hoA := World.ownsRow.alloc h (.cells cs t)
  have hb : Below w3.heap.size w3 (w3.alloc (.cells cs t)) := below1
  exact ⟨(Kt.of_below hb).trans (Kt.append hoA hg), (hb.mono hB).trans (grown_below hoA (by simp; omega) hg)⟩
theorem cut_map (Z : List Int) (k : Nat) : (Z.map msgN).take k ++ (Z.map msgN).drop (k + 1) = (Z.take k ++ Z.drop (k + 1)).map msgN := by
  simp
theorem cut_len {Z : List Int} {k n : Nat} (hn : n = Z.length) (hk : k < n) : (Z.take k ++ Z.drop (k + 1)).length = k + (n - (k + 1)) := by
  rw [List.length_append, List.length_take, List.length_drop]; omega
theorem cut_mem {Z : List Int} {k : Nat} (h : ∀ z ∈ Z, 0 ≤ z ∧ z < 1000) : ∀ z ∈ Z.take k ++ Z.drop (k + 1), 0 ≤ z ∧ z < 1000 := by
  intro z hz
  rcases List.mem_append.1 hz with h1 | h1
  · exact h z (List.mem_of_mem_take h1)
  · exact h z (List.mem_of_mem_drop h1)
/-- one less -/
theorem KeepS.cut {w0 w w3 wx : World} {k j : Nat} {la : Option Addr} {n lc : Nat} {wa : Option Addr} {wc : Nat} {Z Zx : List Int} {a3 : Option Addr} {n3 q3 mx : Nat} {cs : List (List Value)} {wax : Option Addr} {cx : Nat} (h : KeepS w0 w k la n lc wa wc Z) (hb : Below w.heap.size w w3) (hj : j < n) (hZ : Zx = Z.take j ++ Z.drop (j + 1)) (hx : mx = j + (n - (j + 1)))
    (hM : MsgsF w0 w3 (.slice a3 n3 q3) n3 cs ((Z.map msgN).take j ++ (Z.map msgN).drop (j + 1))) (hn : n3 = mx) (hbx : Below w3.heap.size w3 wx) (ho : wx.ownsRow w0.heap.size 3 1 (.slice wax mx cx) mx (at_.i64s Zx)) :
    KeepS w0 wx (k + 1) a3 mx q3 wax cx Zx := by
  obtain ⟨_, _, h3, h4, h5, h6⟩ := h
  subst hn
  have h6' := h6.trans (hb.mono h6.size)
  refine ⟨⟨cs, ?_⟩, ho, by rw [hZ, cut_len h3 hj, hx], by omega, by rw [hZ]; exact cut_mem h5, h6'.trans (hbx.mono h6'.size)⟩
  rw [hZ, ← cut_map]; exact hM.next hbx
theorem sub_news {W : World} {g : Nat} {Z : List Int} (h : ∀ (j : Nat) u, (at_.i64s Z)[j]? = some u → W.cell? ⟨g, j, none⟩ = some u) (i m : Nat) {sp : Option Addr} (hs : 0 < m → sp = some ⟨g, i, none⟩) :
    ∀ ad, sp = some ad → ∀ j u, (at_.i64s ((Z.drop i).take m))[j]? = some u → W.cell? (ad.add j) = some u := by
  intro ad e j u hj
  have hjl : j < m := by
    have := (List.getElem?_eq_some_iff.1 hj).1
    rw [at_.i64s_len, List.length_take] at this; omega
  rw [hs (by omega)] at e
  obtain rfl := Option.some.inj e
  rw [Addr.add_lit]
  refine h (i + j) u ?_
  rw [← hj]
  simp [at_.i64s, hjl]
theorem lose_out (L : List cd.Msg) (v : Value) (k : Int) (w : World) (hL : RowsAt 16 msgRel w w.heap.size v L) (hl : L.length ≤ 600) (hf : ∀ x ∈ L, Fit x) (hk : ¬ (0 ≤ k ∧ k < (L.length : Int))) :
    Calls Try.prog 13 #[v, .int .i64 k] w (fun e w' => e = .returned (.tuple #[v, .int .i64 5]) ∧ Below w.heap.size w w') :=
  (lose_any L v k w hL hl hf).mono fun e w' h => by
    obtain ⟨hb, ⟨_, he⟩ | ⟨j, hj, hjl, _⟩⟩ := h
    · exact ⟨he, hb⟩
    · exact absurd ⟨by omega, by omega⟩ hk
theorem take_out (L : List cd.Msg) (v : Value) (k : Int) (w : World) (hL : RowsAt 16 msgRel w w.heap.size v L) (hl : L.length ≤ 600) (hf : ∀ x ∈ L, Fit x) (hk : ¬ (0 ≤ k ∧ k < (L.length : Int))) :
    Calls Try.prog 11 #[v, .int .i64 k] w (fun e w' => e = .returned (.tuple #[v, .agg #[.int .i64 0, .int .i64 0, .int .i64 0, .int .i64 0, .int .i64 0, .slice none 0 0, .slice none 0 0, .slice none 0 0, .slice none 0 0, .slice none 0 0, .slice none 0 0, .int .i64 0, .string ⟨#[]⟩, .string ⟨#[]⟩, .slice none 0 0, .int .i64 0], .int .i64 5]) ∧ Below w.heap.size w w') :=
  (take_any L v k w hL hl hf).mono fun e w' h => by
    obtain ⟨hb, ⟨_, he⟩ | ⟨j, hj, hjl, _⟩⟩ := h
    · exact ⟨he, hb⟩
    · exact absurd ⟨by omega, by omega⟩ hk
end Go.Proofs.Ytpgccfgldjeomaa
