/- texts put together: NfKit, NfRch, NfSpr, NfRgt. -/
import Derived.Test.YtmfgplbfojnkdaaNf00
import Derived.Test.YtmfgplbfojnkdaaNf01
import Derived.Test.YtmfgplbfojnkdaaNf02
import Derived.OwnWalk
namespace Go.Proofs.Ytmfgplbfojnkdaa
open Go Go.RowKit Go.ChangeShapes cl rx
def ecell (e : nf.Ed) : List Value := [.int .i64 e.fr, .int .i64 e.to, .bool e.fre, .int .u64 e.cl.a, .int .u64 e.cl.b, .int .u64 e.cl.c, .int .u64 e.cl.d]
def ecells (l : List nf.Ed) : List Value := l.flatMap ecell
theorem ecells_snoc (l : List nf.Ed) (e : nf.Ed) : ecells (l ++ [e]) = ecells l ++ ecell e := by simp [ecells]
theorem infoEdge : (Try.prog.info? 42).map (fun i => (i.zero, i.size, i.bytes)) = some (some (.agg #[.int .i64 0, .int .i64 0, .bool false, .int .u64 0, .int .u64 0, .int .u64 0, .int .u64 0]), 7, 56) := by kernel_rfl
structure BdAt (q : Nat) (b : nf.Bd) (w : World) : Prop where
 box : ∃ v, w.heap[q]? = some (.cells #[.int .i64 b.sz, v] 48 (0, 0)) ∧ w.ownsRow (q + 1) 42 7 v b.es.length (ecells b.es)
theorem BdAt.lt {q : Nat} {b : nf.Bd} {w : World} (h : BdAt q b w) : q < w.heap.size := by
 obtain ⟨v, h1, _⟩ := h.box
 exact lt_of_block h1
structure NK (q : Nat) (w w' : World) : Prop where
 below : Below q w w'
 size : w.heap.size ≤ w'.heap.size
 keep : ∀ k, k < w.heap.size → k ≠ q → (∀ cur fr, w.heap[k]? ≠ some (.cells cur 42 fr)) → w'.heap[k]? = w.heap[k]?
theorem NK.refl (q : Nat) (w : World) : NK q w w := ⟨Below.refl _ _, Nat.le_refl _, fun _ _ _ _ => rfl⟩
theorem NK.trans {q : Nat} {a b c : World} (h : NK q a b) (h2 : NK q b c) : NK q a c :=
 ⟨h.below.trans h2.below, Nat.le_trans h.size h2.size, fun k hk hq ht => by
  have e := h.keep k hk hq ht
  exact (h2.keep k (Nat.lt_of_lt_of_le hk h.size) hq (fun cur fr => by rw [e]; exact ht cur fr)).trans e⟩
theorem NK.of_below {q : Nat} {w w' : World} (h : Below w.heap.size w w') (hq : q ≤ w.heap.size) : NK q w w' := ⟨h.mono hq, h.size, fun k hk _ _ => h.block k hk⟩
theorem BdAt.next {q : Nat} {b : nf.Bd} {w w' : World} (h : BdAt q b w) (hb : Below w.heap.size w w') : BdAt q b w' := by
 obtain ⟨v, h1, h2⟩ := h.box
 exact ⟨v, (hb.block _ (lt_of_block h1)).trans h1, own_stay h2 hb⟩
theorem NK.box {q k : Nat} {w w' : World} {arr : Array Value} {T : TypeId} (h : NK q w w') (hx : w.heap[k]? = some (.cells arr T (0, 0))) (hq : k ≠ q) (hT : T ≠ 42) : w'.heap[k]? = some (.cells arr T (0, 0)) :=
 (h.keep k (lt_of_block hx) hq (fun cur fr e => by rw [hx] at e; simp at e; exact hT e.2.1)).trans hx
theorem below_set {q i : Nat} {w : World} {u : Value} : Below q w (w.setCell ⟨q, i, none⟩ u) := (Below.refl q w).setCell (show q ≤ (⟨q, i, none⟩ : Addr).block from Nat.le_refl q) u
theorem nk_set {q i : Nat} {w : World} {u : Value} : NK q w (w.setCell ⟨q, i, none⟩ u) :=
 ⟨below_set, by simp, fun k _ hk _ => heap_setCell_other w ⟨q, i, none⟩ k u (fun e => hk (by rw [e]))⟩
set_option maxHeartbeats 800000 in
set_option maxRecDepth 100000 in
theorem nf_state (q : Nat) (b : nf.Bd) (w : World) (h : BdAt q b w) (hs : b.sz ≤ 1000) : Calls Try.prog 36 #[.pointer (some ⟨q, 0, none⟩)] w fun e w' => e = .returned (.int .i64 b.sz) ∧ BdAt q ⟨b.sz + 1, b.es⟩ w' ∧ NK q w w' := by
 obtain ⟨v, h1, h2⟩ := h.box
 have c0 := boxc h1 0 _ rfl
 have f0 := boxf h1 0
 have x1 : (w.setCell ⟨q, 0, none⟩ (.int .i64 ((b.sz : Int) + 1))).heap[q]? = some (.cells #[.int .i64 ((b.sz : Int) + 1), v] 48 (0, 0)) := heap_setCell_same w q 0 _ _ _ h1
 have c1 := boxc x1 0 _ rfl
 have HR : Hid (BdAt q ⟨b.sz + 1, b.es⟩ (w.setCell ⟨q, 0, none⟩ (.int .i64 ((b.sz : Int) + 1))) ∧ NK q w (w.setCell ⟨q, 0, none⟩ (.int .i64 ((b.sz : Int) + 1)))) :=
  ⟨⟨v, x1, ownsRow_setCell_below h2 (a := ⟨q, 0, none⟩) (by show q < q + 1; omega) _⟩, nk_set⟩
 clear h h1 h2 x1
 go_enter Try.func36, Try.ntmps36
 go_wp2
 go_ret
 exact ⟨rfl, HR.out⟩
set_option maxHeartbeats 1600000 in
set_option maxRecDepth 100000 in
theorem nf_free (q f t : Nat) (b : nf.Bd) (w : World) (h : BdAt q b w) (hl : b.es.length ≤ 100000) : Calls Try.prog 37 #[.pointer (some ⟨q, 0, none⟩), .int .i64 f, .int .i64 t] w fun e w' => e = .returned (.tuple #[]) ∧ BdAt q (b.free f t) w' ∧ NK q w w' := by
 have hq := h.lt
 obtain ⟨v, h1, h2⟩ := h.box
 obtain ⟨n, hn⟩ : ∃ n, n = b.es.length := ⟨_, rfl⟩
 rw [← hn] at h2
 obtain ⟨ao, c, rfl⟩ : ∃ ao c, v = .slice ao n c := by
  rcases h2.2 with ⟨rfl, h0⟩ | ⟨g, c, cur, rfl, _⟩
  ·
   exact ⟨none, 0, by rw [h0]⟩
  ·
   exact ⟨_, _, rfl⟩
 have c1 := boxc h1 1 _ rfl
 have HX := Lib.hid h1
 have HO := Lib.hid h2
 have HN := Lib.hid hn
 have HQ := Lib.hid hq
 have HZ : Hid (q + 1 ≤ w.heap.size) := hq
 have hn1 : n ≤ 100000 := by omega
 clear h h1 h2 hn hq hl
 go_enter Try.func37, Try.ntmps37
 go_wp2_with (at_builtin; refine app1g (.tmp 10) (.tmp 14) 30 rfl rfl (q + 1) Try.underlying30 infoEdge rfl (by decide) (by decide) HO.out rfl rfl rfl (by intro u hu; simp at hu; rcases hu with rfl | rfl | rfl | rfl <;> rfl) (by omega) HZ.out ?_)
 intro v' w5 hown hg
 obtain ⟨ao2, c2, rfl⟩ : ∃ ao2 c2, v' = .slice ao2 (n + 1) c2 := by
  rcases hown.2 with ⟨_, h0⟩ | ⟨g, c, cur, rfl, _⟩
  ·
   cases h0
  ·
   exact ⟨_, _, rfl⟩
 have hlo : ∀ j, (Value.slice ao n c).ownBlock = some j → q + 1 ≤ j := fun j hj => (HO.out.lt j hj).1
 have hb5 : Below q w w5 := ((Below.refl q w).alloc (Nat.le_of_lt HQ.out) _).grown hg (by simp; have := HQ.out; omega) (fun j hj => by have := hlo j hj; omega)
 have x5 : w5.heap[q]? = some (.cells #[.int .i64 b.sz, .slice ao n c] 48 (0, 0)) := by
  rw [hg.block q (by simp; have := HQ.out; omega) (fun e => by have := hlo q e.symm; omega), below1.block q HQ.out]
  exact HX.out
 have d1 := boxc x5 1 _ rfl
 have f1 := boxf x5 1
 have x6 : (w5.setCell ⟨q, 1, none⟩ (.slice ao2 (n + 1) c2)).heap[q]? = some (.cells #[.int .i64 b.sz, .slice ao2 (n + 1) c2] 48 (0, 0)) := heap_setCell_same w5 q 1 _ _ _ x5
 have HR : Hid (BdAt q (b.free f t) (w5.setCell ⟨q, 1, none⟩ (.slice ao2 (n + 1) c2)) ∧ NK q w (w5.setCell ⟨q, 1, none⟩ (.slice ao2 (n + 1) c2))) := by
  refine ⟨⟨_, x6, ?_⟩, ⟨hb5.trans below_set, by have := hg.size; simp at this ⊢; omega, fun k hk hkq ht => ?_⟩⟩
  ·
   have h3 : (b.free f t).es.length = n + 1 := by simp [nf.Bd.free, HN.out]
   have h4 : ecells (b.free f t).es = ecells b.es ++ ecell ⟨f, t, true, .zero⟩ := ecells_snoc _ _
   rw [h3, h4]
   exact ownsRow_setCell_below hown (a := ⟨q, 1, none⟩) (by show q < q + 1; omega) _
  ·
   rw [heap_setCell_other w5 ⟨q, 1, none⟩ k _ (fun e => hkq (by rw [e]))]
   by_cases hk2 : (Value.slice ao n c).ownBlock = some k
   ·
    exfalso
    rcases HO.out.2 with ⟨e, _⟩ | ⟨g, c', cur, e, _, hgg, _⟩
    ·
     rw [e] at hk2; cases hk2
    ·
     rw [e] at hk2
     obtain rfl := Option.some.inj hk2
     exact ht _ _ hgg
   ·
    rw [hg.block k (by simp; omega) (fun e => hk2 e.symm), below1.block k hk]
 clear hown hg hlo hb5 x5 x6
 go_wp2
 go_end0
 exact ⟨rfl, HR.out⟩
set_option maxHeartbeats 800000 in
set_option maxRecDepth 100000 in
theorem nf_full (q : Nat) (b : nf.Bd) (w : World) (h : BdAt q b w) : Calls Try.prog 23 #[.pointer (some ⟨q, 0, none⟩)] w fun e w' => e = .returned (.bool b.full) ∧ w' = w := by
 obtain ⟨v, h1, _⟩ := h.box
 have c0 := boxc h1 0 _ rfl
 have e : b.full = decide ((400 : Int) < (b.sz : Int)) := by unfold nf.Bd.full; exact decide_eq_decide.2 (by omega)
 have E := Lib.hid e
 clear h h1 e
 go_enter Try.func23, Try.ntmps23
 go_wp2
 go_ret
 exact ⟨by rw [E.out]; simp, rfl⟩
end Go.Proofs.Ytmfgplbfojnkdaa
namespace Go.Proofs.Ytmfgplbfojnkdaa.nf
def add (out : List Nat) (i : Nat) : List Nat := if i ∈ out then out else out ++ [i]
def marks (n : Nat) (out : List Nat) : List Value := (List.range n).map fun i => .int .i64 (if i ∈ out then 1 else 0)
theorem marks_len (n : Nat) (out : List Nat) : (marks n out).length = n := by simp [marks]
theorem marks_get {n : Nat} {out : List Nat} {i : Nat} (h : i < n) : (marks n out)[i]? = some (.int .i64 (if i ∈ out then 1 else 0)) := by simp [marks, h]
theorem marks_set {n : Nat} {out : List Nat} {i : Nat} (h : i < n) (_hn : i ∉ out) : (marks n out).set i (.int .i64 1) = marks n (out ++ [i]) := by
 apply List.ext_getElem?
 intro j
 rw [List.getElem?_set]
 by_cases hj : j < n
 ·
  rw [marks_get hj, marks_get hj, marks_len]
  by_cases e : i = j
  ·
   subst e
   rw [if_pos rfl, if_pos hj]; simp
  ·
   rw [if_neg e]
   have : (j ∈ out ++ [i]) ↔ j ∈ out := ⟨fun h => (List.mem_append.1 h).elim id (fun h => absurd (List.mem_singleton.1 h).symm e), fun h => List.mem_append_left _ h⟩
   simp [this]
 ·
  have h1 : (marks n out)[j]? = none := List.getElem?_eq_none (by rw [marks_len]; omega)
  have h2 : (marks n (out ++ [i]))[j]? = none := List.getElem?_eq_none (by rw [marks_len]; omega)
  rw [h1, h2, if_neg (by omega)]
def Ok (n : Nat) (out : List Nat) : Prop := out.Nodup ∧ ∀ x ∈ out, x < n
theorem ok_nil (n : Nat) : Ok n [] := ⟨List.nodup_nil, fun _ h => by cases h⟩
theorem ok_add {n : Nat} {out : List Nat} {i : Nat} (h : Ok n out) (hi : i < n) : Ok n (add out i) := by
 unfold add
 split
 ·
  exact h
 ·
  rename_i hn
  refine ⟨?_, fun x hx => ?_⟩
  ·
   rw [List.nodup_append]
   exact ⟨h.1, by simp, fun a ha b hb e => by rw [List.mem_singleton.1 hb] at e; exact hn (e ▸ ha)⟩
  ·
   rcases List.mem_append.1 hx with hx | hx
   ·
    exact h.2 x hx
   ·
    rw [List.mem_singleton.1 hx]; exact hi
theorem nodup_le : ∀ (n : Nat) (l : List Nat), l.Nodup → (∀ x ∈ l, x < n) → l.length ≤ n := by
 intro n
 induction n with
 | zero =>
  intro l _ h
  cases l with
  | nil => simp
  | cons x l => exact absurd (h x (List.mem_cons_self ..)) (by omega)
 | succ n ih =>
  intro l hn h
  by_cases hm : n ∈ l
  ·
   have h1 := ih (l.erase n) (hn.erase n) (fun x hx => by
    have := (hn.mem_erase_iff).1 hx
    have := h x this.2
    omega)
   rw [List.length_erase_of_mem hm] at h1
   omega
  ·
   have h1 := ih l hn (fun x hx => by
    have := h x hx
    have : x ≠ n := fun e => hm (e ▸ hx)
    omega)
   omega
theorem ok_len {n : Nat} {out : List Nat} (h : Ok n out) : out.length ≤ n := nodup_le n out h.1 h.2
end Go.Proofs.Ytmfgplbfojnkdaa.nf
namespace Go.Proofs.Ytmfgplbfojnkdaa
open Go Go.RowKit Go.ChangeShapes cl rx
def nats (l : List Nat) : List Value := l.map fun (i : Nat) => Value.int .i64 (i : Int)
theorem nats_snoc (l : List Nat) (i : Nat) : nats (l ++ [i]) = nats l ++ [.int .i64 (i : Int)] := by simp [nats]
theorem infoI : (Try.prog.info? 3).map (fun i => (i.zero, i.size, i.bytes)) = some (some (.int .i64 0), 1, 8) := by kernel_rfl
structure SP (gi bi bo n : Nat) (out : List Nat) (w : World) : Prop where
 inb : w.heap[bi]? = some (.cells #[.slice (some ⟨gi, 0, none⟩) n n] 56 (0, 0))
 inr : w.heap[gi]? = some (.cells (nf.marks n out).toArray 3 (0, 0))
 outb : ∃ ao c, w.heap[bo]? = some (.cells #[.slice ao out.length c] 56 (0, 0)) ∧ w.ownsRow (bo + 1) 3 1 (.slice ao out.length c) out.length (nats out)
 ok : nf.Ok n out
 lt1 : gi < bi
 lt2 : bi < bo
theorem SP.next {gi bi bo n : Nat} {out : List Nat} {w w' : World} (h : SP gi bi bo n out w) (hb : Below w.heap.size w w') : SP gi bi bo n out w' := by
 obtain ⟨ao, c, h1, h2⟩ := h.outb
 exact ⟨(hb.block _ (lt_of_block h.inb)).trans h.inb, (hb.block _ (lt_of_block h.inr)).trans h.inr, ⟨ao, c, (hb.block _ (lt_of_block h1)).trans h1, own_stay h2 hb⟩, h.ok, h.lt1, h.lt2⟩
set_option maxHeartbeats 3200000 in
set_option maxRecDepth 100000 in
theorem nf_reach (gi bi bo n i : Nat) (out : List Nat) (w : World) (h : SP gi bi bo n out w) (hi : i < n) (hn : n ≤ 1000) : Calls Try.prog 45 #[.int .i64 i, .pointer (some ⟨bi, 0, none⟩), .pointer (some ⟨bo, 0, none⟩)] w fun e w' => e = .returned (.tuple #[]) ∧ SP gi bi bo n (nf.add out i) w' ∧ Below gi w w' := by
 have hiI : (i : Int) < (n : Int) := by omega
 have b0 := boxc h.inb 0 _ rfl
 by_cases hin : i ∈ out
 ·
  have r0 : w.cell? ⟨gi, i, none⟩ = some (.int .i64 1) := boxc h.inr i _ (by rw [List.getElem?_toArray, nf.marks_get hi, if_pos hin])
  have HR : Hid (SP gi bi bo n (nf.add out i) w) := by show SP _ _ _ _ _ _; unfold nf.add; rw [if_pos hin]; exact h
  clear h hin
  go_enter Try.func45, Try.ntmps45
  go_wp2
  go_end0
  exact ⟨rfl, HR.out, Below.refl _ _⟩
 ·
  have r0 : w.cell? ⟨gi, i, none⟩ = some (.int .i64 0) := boxc h.inr i _ (by rw [List.getElem?_toArray, nf.marks_get hi, if_neg hin])
  have f0 := boxf h.inr i
  obtain ⟨ao, c, ho, hown⟩ := h.outb
  obtain ⟨m, hm⟩ : ∃ m, m = out.length := ⟨_, rfl⟩
  rw [← hm] at ho hown
  have hm1 : m ≤ 1000 := by rw [hm]; exact Nat.le_trans (nf.ok_len h.ok) hn
  have HM := Lib.hid hm
  obtain ⟨w1, hw1⟩ : ∃ W, W = w.setCell ⟨gi, i, none⟩ (.int .i64 1) := ⟨_, rfl⟩
  have x1 : w1.heap[gi]? = some (.cells (nf.marks n (out ++ [i])).toArray 3 (0, 0)) := by
   rw [hw1, heap_setCell_same w gi i _ _ _ h.inr, ← nf.marks_set hi hin]; simp
  have l1 := h.lt1
  have l2 := h.lt2
  have o1 : w1.heap[bo]? = some (.cells #[.slice ao m c] 56 (0, 0)) := by rw [hw1, heap_setCell_other w ⟨gi, i, none⟩ bo _ (by show bo ≠ gi; omega)]; exact ho
  have i1 : w1.heap[bi]? = some (.cells #[.slice (some ⟨gi, 0, none⟩) n n] 56 (0, 0)) := by rw [hw1, heap_setCell_other w ⟨gi, i, none⟩ bi _ (by show bi ≠ gi; omega)]; exact h.inb
  have ow1 : w1.ownsRow (bo + 1) 3 1 (.slice ao m c) m (nats out) := by rw [hw1]; exact ownsRow_setCell_below hown (a := ⟨gi, i, none⟩) (by show gi < bo + 1; omega) _
  have bw1 : Below gi w w1 := by rw [hw1]; exact below_set
  have c0 : (w.setCell ⟨gi, i, none⟩ (.int .i64 1)).cell? ⟨bo, 0, none⟩ = some (.slice ao m c) := by rw [← hw1]; exact boxc o1 0 _ rfl
  have HX := Lib.hid (And.intro x1 (And.intro o1 (And.intro i1 (And.intro bw1 h.ok))))
  have HO : Hid ((w.setCell ⟨gi, i, none⟩ (.int .i64 1)).ownsRow (bo + 1) 3 1 (.slice ao m c) m (nats out)) := by show World.ownsRow _ _ _ _ _ _ _; rw [← hw1]; exact ow1
  have HZ : Hid (bo + 1 ≤ (w.setCell ⟨gi, i, none⟩ (.int .i64 1)).heap.size) := by show _ ≤ _; rw [← hw1]; exact lt_of_block o1
  have HIN := Lib.hid hin
  have HW1 := Lib.hid hw1
  clear h ho hown hm x1 o1 i1 ow1 bw1 hin hw1
  go_enter Try.func45, Try.ntmps45
  go_wp2_with (at_builtin; refine app1g (.tmp 12) (.tmp 14) 56 rfl rfl (bo + 1) Try.underlying56 infoI rfl (by decide) (by decide) HO.out rfl (by show Value.slice (some ⟨w.heap.size, 0, none⟩) 1 1 = Value.slice (some ⟨World.heap _ |>.size, 0, none⟩) 1 1; simp) rfl (by intro u hu; simp at hu; rw [hu]; rfl) (by omega) HZ.out ?_)
  rw [← HW1.out]
  intro v' w5 hown hg
  obtain ⟨ao2, c2, rfl⟩ : ∃ ao2 c2, v' = .slice ao2 (m + 1) c2 := by
   rcases hown.2 with ⟨_, h0⟩ | ⟨g, c, cur, rfl, _⟩
   ·
    cases h0
   ·
    exact ⟨_, _, rfl⟩
  obtain ⟨x1, o1, i1, bw1, hok⟩ := HX.out
  have hlo : ∀ j, (Value.slice ao m c).ownBlock = some j → bo + 1 ≤ j := fun j hj => (HO.out.lt j hj).1
  have kp : ∀ k, k < bo + 1 → w5.heap[k]? = w1.heap[k]? := fun k hk => by
   have hks : k < w1.heap.size := Nat.lt_of_lt_of_le hk (lt_of_block o1)
   rw [hg.block k (by simp; omega) (fun e => by have := hlo k e.symm; omega), below1.block k hks]
  have x5 := (kp gi (by omega)).trans x1
  have o5 := (kp bo (by omega)).trans o1
  have i5 := (kp bi (by omega)).trans i1
  have hb5 : Below gi w1 w5 := ((Below.refl gi w1).alloc (Nat.le_of_lt (lt_of_block x1)) _).grown hg (by simp; have := lt_of_block x1; omega) (fun j hj => by have := hlo j hj; omega)
  have c5 := boxc o5 0 _ rfl
  have f5 := boxf o5 0
  have o6 : (w5.setCell ⟨bo, 0, none⟩ (.slice ao2 (m + 1) c2)).heap[bo]? = some (.cells #[.slice ao2 (m + 1) c2] 56 (0, 0)) := heap_setCell_same w5 bo 0 _ _ _ o5
  have HR : Hid (SP gi bi bo n (nf.add out i) (w5.setCell ⟨bo, 0, none⟩ (.slice ao2 (m + 1) c2)) ∧ Below gi w (w5.setCell ⟨bo, 0, none⟩ (.slice ao2 (m + 1) c2))) := by
   have ha : nf.add out i = out ++ [i] := by unfold nf.add; rw [if_neg HIN.out]
   refine ⟨⟨?_, ?_, ⟨ao2, c2, ?_, ?_⟩, nf.ok_add hok hi, l1, l2⟩, (bw1.trans hb5).trans (below_set.mono (by omega))⟩
   ·
    rw [heap_setCell_other w5 ⟨bo, 0, none⟩ bi _ (by show bi ≠ bo; omega)]; exact i5
   ·
    rw [ha, heap_setCell_other w5 ⟨bo, 0, none⟩ gi _ (by show gi ≠ bo; omega)]; exact x5
   ·
    rw [ha, List.length_append, ← HM.out]; exact o6
   ·
    rw [ha, List.length_append, ← HM.out, nats_snoc]
    exact ownsRow_setCell_below hown (a := ⟨bo, 0, none⟩) (by show bo < bo + 1; omega) _
  clear hown hg x1 o1 i1 bw1 hok hlo kp x5 i5 hb5 o6 o5
  go_wp2
  go_end0
  exact ⟨rfl, HR.out⟩
end Go.Proofs.Ytmfgplbfojnkdaa
namespace Go.Proofs.Ytmfgplbfojnkdaa.nf
def stepE (out : List Nat) (es : List Ed) : List Nat := es.foldl (fun o e => if e.fre then add o e.to else o) out
def goF (L : List (List Ed)) : Nat → Nat → List Nat → List Nat
 | 0, _, out => out
 | f + 1, k, out => if k < out.length then goF L f (k + 1) (stepE out (L.getD (out.getD k 0) [])) else out
def spread (L : List (List Ed)) (ls : List Nat) : List Nat := goF L (L.length + 1) 0 (ls.foldl add [])
theorem ok_fold {n : Nat} : ∀ (ls out : List Nat), Ok n out → (∀ x ∈ ls, x < n) → Ok n (ls.foldl add out)
 | [], _, h, _ => h
 | x :: ls, out, h, hl => ok_fold ls (add out x) (ok_add h (hl x (List.mem_cons_self ..))) (fun y hy => hl y (List.mem_cons_of_mem _ hy))
theorem ok_step {n : Nat} : ∀ (es : List Ed) (out : List Nat), Ok n out → (∀ e ∈ es, e.to < n) → Ok n (stepE out es)
 | [], _, h, _ => h
 | e :: es, out, h, hl => by
  show Ok n (stepE (if e.fre then add out e.to else out) es)
  refine ok_step es _ ?_ (fun y hy => hl y (List.mem_cons_of_mem _ hy))
  split
  ·
   exact ok_add h (hl e (List.mem_cons_self ..))
  ·
   exact h
theorem ok_go {n : Nat} {L : List (List Ed)} (hL : ∀ es ∈ L, ∀ e ∈ es, e.to < n) : ∀ (f k : Nat) (out : List Nat), Ok n out → Ok n (goF L f k out)
 | 0, _, _, h => h
 | f + 1, k, out, h => by
  unfold goF
  split
  ·
   refine ok_go hL f (k + 1) _ (ok_step _ _ h (fun e he => ?_))
   by_cases hk : out.getD k 0 < L.length
   ·
    exact hL _ (by rw [List.getD_eq_getElem?_getD, List.getElem?_eq_getElem hk]; exact List.getElem_mem _) e he
   ·
    rw [List.getD_eq_getElem?_getD, List.getElem?_eq_none (by omega)] at he; cases he
  ·
   exact h
theorem ok_spread {n : Nat} {L : List (List Ed)} {ls : List Nat} (hL : ∀ es ∈ L, ∀ e ∈ es, e.to < n) (hl : ∀ x ∈ ls, x < n) : Ok n (spread L ls) := ok_go hL _ _ _ (ok_fold ls [] (ok_nil n) hl)
theorem marks_nil (n : Nat) : marks n [] = List.replicate n (Value.int .i64 0) := by
 apply List.ext_getElem?
 intro j
 by_cases h : j < n
 ·
  rw [marks_get h, List.getElem?_replicate, if_pos h]; simp
 ·
  rw [List.getElem?_eq_none (by rw [marks_len]; omega), List.getElem?_eq_none (by simp; omega)]
theorem take_fold {ls : List Nat} {j : Nat} (h : j < ls.length) : (ls.take (j + 1)).foldl add [] = add ((ls.take j).foldl add []) (ls.getD j 0) := by
 rw [List.take_succ_eq_append_getElem h, List.foldl_append, List.getD_eq_getElem?_getD, List.getElem?_eq_getElem h]; rfl
theorem take_step {es : List Ed} {out : List Nat} {j : Nat} (h : j < es.length) : stepE out (es.take (j + 1)) = if (es.getD j default).fre then add (stepE out (es.take j)) (es.getD j default).to else stepE out (es.take j) := by
 unfold stepE
 rw [List.take_succ_eq_append_getElem h, List.foldl_append, List.getD_eq_getElem?_getD, List.getElem?_eq_getElem h]; rfl
end Go.Proofs.Ytmfgplbfojnkdaa.nf
namespace Go.Proofs.Ytmfgplbfojnkdaa
open Go Go.RowKit Go.ChangeShapes cl rx
theorem made_flat (z : Array Value) (k : Nat) (hk : z.size = k) (h0 : 0 < k) (n : Nat) : (madeCells z (n * k)).toList = (List.replicate n z.toList).flatten := by
 have hall : ∀ c ∈ List.replicate n z.toList, c.length = k := by
  intro c hc; rw [List.eq_of_mem_replicate hc, Array.length_toList, hk]
 have hl := flat_len _ hall
 rw [List.length_replicate] at hl
 apply List.ext_getElem?
 intro j
 by_cases hj : j < n * k
 ·
  have hq : j / k < n := Nat.div_lt_of_lt_mul (by rw [Nat.mul_comm]; exact hj)
  have hr := Nat.mod_lt j h0
  have hg := flat_get _ hall (j / k) z.toList (j % k) (by rw [List.getElem?_replicate, if_pos hq]) hr
  rw [Nat.div_add_mod'] at hg
  have hz : j % k < z.size := by omega
  rw [hg, Array.getElem?_toList, Array.getElem?_toList, Array.getElem?_eq_getElem hz]
  have hs : j < (madeCells z (n * k)).size := by rw [size_madeCells]; exact hj
  rw [Array.getElem?_eq_getElem hs]
  simp only [madeCells, Array.getElem_map, Array.getElem_range, hk]
  rw [getElem!_pos z (j % k) hz]
 ·
  rw [List.getElem?_eq_none (by rw [Array.length_toList, size_madeCells]; omega), List.getElem?_eq_none (by omega)]
def edR : Rel (List nf.Ed) := fun w B c es => ∃ v, c = [v] ∧ Cells w B v es.length 7 (ecells es)
theorem edR_steady : Steady edR := fun _ _ _ _ _ _ ⟨v, e, h⟩ hb hB => ⟨v, e, (h.below hb).mono hB⟩
abbrev Lvg (w : World) (B : Nat) (v : Value) (L : List (List nf.Ed)) : Prop := RowsAt 1 edR w B v L
theorem ec_flat (L : List nf.Ed) : ecells L = (L.map ecell).flatten := by simp [ecells, List.flatMap]
theorem ec_get {w : World} {B n c : Nat} {ao : Option Addr} {L : List nf.Ed} (h : Cells w B (.slice ao n c) n 7 (ecells L)) (hn : n = L.length) {j : Nat} (hj : j < n) : ∃ b off, ao = some ⟨b, off, none⟩ ∧ b < B ∧
  w.cell? ⟨b, off + j * 7, none⟩ = some (.int .i64 (L.getD j default).fr) ∧ w.cell? ⟨b, off + j * 7 + 1, none⟩ = some (.int .i64 (L.getD j default).to) ∧ w.cell? ⟨b, off + j * 7 + 2, none⟩ = some (.bool (L.getD j default).fre) ∧ w.cell? ⟨b, off + j * 7 + 3, none⟩ = some (.int .u64 (L.getD j default).cl.a) ∧
  w.cell? ⟨b, off + j * 7 + 4, none⟩ = some (.int .u64 (L.getD j default).cl.b) ∧ w.cell? ⟨b, off + j * 7 + 5, none⟩ = some (.int .u64 (L.getD j default).cl.c) ∧ w.cell? ⟨b, off + j * 7 + 6, none⟩ = some (.int .u64 (L.getD j default).cl.d) := by
 subst hn
 obtain ⟨_, ao', c', e, _, _, h4⟩ := h
 simp only [Value.slice.injEq] at e
 obtain ⟨rfl, _, rfl⟩ := e
 obtain ⟨b, off, rfl, hB, hc⟩ := h4 (by omega)
 have key : ∀ i u, (ecell (L.getD j default))[i]? = some u → w.cell? ⟨b, off + j * 7 + i, none⟩ = some u := fun i u hu => by
  have hi : i < 7 := (List.getElem?_eq_some_iff.1 hu).1
  have := flat_get (k := 7) (L.map ecell) (fun c hc => by obtain ⟨x, _, rfl⟩ := List.mem_map.1 hc; rfl) j (ecell (L.getD j default)) i (by
   rw [List.getElem?_map, List.getElem?_eq_getElem hj, List.getD_eq_getElem?_getD, List.getElem?_eq_getElem hj]; rfl) hi
  rw [Nat.add_assoc]
  exact hc _ u (by rw [ec_flat, this]; exact hu)
 exact ⟨b, off, rfl, hB, key 0 _ rfl, key 1 _ rfl, key 2 _ rfl, key 3 _ rfl, key 4 _ rfl, key 5 _ rfl, key 6 _ rfl⟩
theorem lvg_get {w : World} {B n c : Nat} {ao : Option Addr} {L : List (List nf.Ed)} (h : Lvg w B (.slice ao n c) L) (hn : n = L.length) {i : Nat} (hi : i < n) : ∃ b off eo ec, ao = some ⟨b, off, none⟩ ∧ w.cell? ⟨b, off + i, none⟩ = some (.slice eo (L.getD i []).length ec) ∧ Cells w B (.slice eo (L.getD i []).length ec) (L.getD i []).length 7 (ecells (L.getD i [])) := by
 obtain ⟨b, off, c', e, _, _, ⟨v, rfl, hv⟩, hc⟩ := RowsAt.get h hn hi []
 obtain ⟨eo, ec, rfl, _, _⟩ := hv.form
 exact ⟨b, off, eo, ec, e, by have := hc 0 _ rfl; simpa using this, hv⟩
theorem nats_at {w : World} {B n c : Nat} {ao : Option Addr} {l : List Nat} (h : Cells w B (.slice ao n c) n 1 (nats l)) (hn : n = l.length) {j : Nat} (hj : j < n) : ∃ b off, ao = some ⟨b, off, none⟩ ∧ b < B ∧ w.cell? ⟨b, off + j, none⟩ = some (.int .i64 (l.getD j 0 : Nat)) := by
 subst hn
 obtain ⟨_, ao', c', e, _, _, h4⟩ := h
 simp only [Value.slice.injEq] at e
 obtain ⟨rfl, _, rfl⟩ := e
 obtain ⟨b, off, rfl, hB, hc⟩ := h4 (by omega)
 exact ⟨b, off, rfl, hB, hc j _ (by simp [nats, List.getElem?_map, List.getElem?_eq_getElem hj, List.getD])⟩
theorem own_monoS {w : World} {B B' : Nat} {e : TypeId} {k : Nat} {v : Value} {n : Nat} {xs : List Value} (h : w.ownsRow B e k v n xs) (hB : B' ≤ B) : w.ownsRow B' e k v n xs := by
 obtain ⟨h1, h2⟩ := h
 refine ⟨h1, ?_⟩
 rcases h2 with h2 | ⟨g, c, cur, e, hb, r⟩
 ·
  exact Or.inl h2
 ·
  exact Or.inr ⟨g, c, cur, e, Nat.le_trans hB hb, r⟩
def SprP (R : List Nat) (w : World) (e : Ending) (w' : World) : Prop := ∃ ao c, e = .returned (.slice ao R.length c) ∧ w'.ownsRow w.heap.size 3 1 (.slice ao R.length c) R.length (nats R) ∧ Below w.heap.size w w'
set_option maxHeartbeats 6400000 in
set_option maxRecDepth 100000 in
theorem nf_spread (L : List (List nf.Ed)) (ls : List Nat) (lv vl : Value) (w : World) (hL : Lvg w w.heap.size lv L) (hl : Cells w w.heap.size vl ls.length 1 (nats ls)) (hn : L.length ≤ 1000) (hls : ∀ x ∈ ls, x < L.length) (hes : ∀ es ∈ L, ∀ e ∈ es, e.to < L.length) :
  Calls Try.prog 26 #[lv, vl] w (SprP (nf.spread L ls) w) := by
 obtain ⟨n, hnn⟩ : ∃ n, n = L.length := ⟨_, rfl⟩
 obtain ⟨lo, lc, rfl, _, _⟩ : ∃ lo lc, lv = .slice lo n lc ∧ n ≤ lc ∧ n ≤ maxLen := RowsAt.form' hL hnn
 obtain ⟨m, hm⟩ : ∃ m, m = ls.length := ⟨_, rfl⟩
 rw [← hm] at hl
 obtain ⟨so, sc, rfl, _, hm6⟩ := hl.form
 have hm63 : m ≤ 9223372036854775807 := by unfold maxLen at hm6; exact hm6
 have hn1 : n ≤ 1000 := by omega
 obtain ⟨i0, hi, hz0, hz1, hz2⟩ := info_parts infoI
 have HI := Lib.hid (And.intro hi (And.intro hz0 (And.intro hz1 hz2)))
 have HL := Lib.hid hL
 have HS := Lib.hid hl
 have HN := Lib.hid hnn
 have HM := Lib.hid hm
 rw [← hnn] at hls hes
 have HLS := Lib.hid hls
 have HES := Lib.hid hes
 clear hL hl hnn hm hn hls hes hi hz0 hz1 hz2 hm6
 go_enter Try.func26, Try.ntmps26
 go_wp2_with (at_make; refine wpList_make_full _ rfl _ _ 56 rfl w.heap.size 3 i0 (.int .i64 0) 1 Try.underlying56 HI.out.1 HI.out.2.1 HI.out.2.2.1 .i64 .i64 _ _ n rfl rfl rfl rfl (by rw [HI.out.2.2.2]; omega) (by unfold maxLen; omega) (Nat.le_refl _) ?_)
 intro w1 hown1 hgrow1
 have hb1 : Below w.heap.size w w1 := (Below.refl _ _).grown hgrow1 (Nat.le_refl _) (fun j hj => by cases hj)
 obtain ⟨gi, hgi⟩ : ∃ g, g = w.heap.size := ⟨_, rfl⟩
 rw [← hgi] at hown1 ⊢
 have x1 : w1.heap[gi]? = some (.cells (nf.marks n []).toArray 3 (0, 0)) := by
  rcases hown1.2 with ⟨e, _⟩ | ⟨g, gc, cur, e, _, hg, _, _, hcs, htk⟩
  ·
   cases e
  ·
   simp only [Value.slice.injEq, Option.some.injEq, Addr.mk.injEq, and_true, true_and] at e
   obtain ⟨rfl, rfl⟩ := e
   have hmf := made_flat #[Value.int .i64 0] 1 rfl (by decide) n
   simp only [Nat.mul_one] at hmf htk
   rw [hmf] at htk
   rw [hg]
   have hcl : cur.toList.length = n := by rw [Array.length_toList, hcs]; omega
   rw [List.take_of_length_le (by omega)] at htk
   rw [nf.marks_nil]
   have h2 : cur = (List.replicate n (Value.int .i64 0)).toArray := by
    apply Array.ext'
    rw [htk]
    simp [List.flatten_replicate_singleton]
   rw [h2]
 obtain ⟨bi, hbi⟩ : ∃ b, b = w1.heap.size := ⟨_, rfl⟩
 obtain ⟨w2, hw2⟩ : ∃ W, W = (w1.alloc (.cells #[.slice (some ⟨gi, 0, none⟩) n n] 56)).alloc (.cells #[.slice none 0 0] 56) := ⟨_, rfl⟩
 have b2 : Below w1.heap.size w1 w2 := by rw [hw2]; exact below1.alloc (by simp) _
 have y2 : w2.heap[bi]? = some (.cells #[.slice (some ⟨gi, 0, none⟩) n n] 56 (0, 0)) := by rw [hw2, below1.block bi (by rw [hbi]; simp), hbi]; exact heap_alloc_new w1 _
 have z2 : w2.heap[bi + 1]? = some (.cells #[.slice none 0 0] 56 (0, 0)) := by
  have := heap_alloc_new (w1.alloc (.cells #[.slice (some ⟨gi, 0, none⟩) n n] 56)) (.cells #[.slice none 0 0] 56)
  rw [World.size_alloc] at this
  rw [hw2, hbi]; exact this
 have HSP2 : Hid (SP gi bi (bi + 1) n [] w2) := ⟨y2, (b2.block _ (lt_of_block x1)).trans x1, ⟨none, 0, z2, World.ownsRow_nil _ _ _ _⟩, nf.ok_nil n, by rw [hbi]; exact lt_of_block x1, Nat.lt_succ_self _⟩
 have HGI := Lib.hid hgi
 have HB2 : Hid (Below gi w w2) := by show Below _ _ _; rw [hgi]; exact hb1.trans (b2.mono hb1.size)
 have HBW : Hid (∀ W, Below gi w W → Below w.heap.size w W) := fun W h => by rw [← HGI.out]; exact h
 have HW2 := Lib.hid hw2
 have HBI := Lib.hid hbi
 clear hown1 hgrow1 hb1 hgi x1 hbi hw2 b2 y2 z2
 go_wp2_with fail
 rw [← HW2.out, ← HBI.out]
 go_loopw [19] (fun i wr => ∃ (j : Nat), i = .int .i64 j ∧ j ≤ m ∧ Hid (SP gi bi (bi + 1) n ((ls.take j).foldl nf.add []) wr) ∧ Hid (Below gi w wr)) (fun i _ => m - (intOf i).toNat)
 case atStart => exact ⟨0, rfl, by omega, HSP2.out, HB2.out⟩
 case round =>
  obtain ⟨j, rfl, hj, HSP, HB⟩ := hrel
  clear HSP2 HB2
  by_cases hjt : j < m
  ·
   have hjI : (j : Int) < (m : Int) := by omega
   obtain ⟨sb, sof, rfl, hsb, p0⟩ := nats_at (HS.out.below (HBW.out _ HB.out)) HM.out hjt
   have hjl : j < ls.length := by rw [← HM.out]; exact hjt
   obtain ⟨x, hx⟩ : ∃ x, x = ls.getD j 0 := ⟨_, rfl⟩
   rw [← hx] at p0
   have hxn : x < n := by rw [hx]; exact HLS.out _ (by rw [List.getD_eq_getElem?_getD, List.getElem?_eq_getElem hjl]; exact List.getElem_mem _)
   have HT : Hid ((ls.take (j + 1)).foldl nf.add [] = nf.add ((ls.take j).foldl nf.add []) x) := by show _ = _; rw [nf.take_fold hjl, hx]
   have HRC := Lib.hid (nf_reach gi bi (bi + 1) n x _ wr HSP.out hxn hn1)
   clear hx hjl
   go_wp2_with fail
   (with_reducible refine HRC.out.mono ?_)
   rintro e w3 ⟨rfl, hsp3, hb3⟩
   have HSP3 : Hid (SP gi bi (bi + 1) n ((ls.take (j + 1)).foldl nf.add []) w3) := by show SP _ _ _ _ _ _; rw [HT.out]; exact hsp3
   have HB3 := Lib.hid (HB.out.trans hb3)
   clear hsp3 hb3 HRC
   go_wp2
   go_roundw
   case rel => exact ⟨j + 1, by go_num, by omega, HSP3, HB3⟩
   case measure => simp [intOf]; omega
  ·
   have hjn : m = j := by omega
   subst hjn
   obtain ⟨T, hT⟩ : ∃ T, T = nf.spread L ls := ⟨_, rfl⟩
   have HT := Lib.hid hT
   rw [← hT]
   have HSP4 : Hid (SP gi bi (bi + 1) n (ls.foldl nf.add []) wr) := by
    have := HSP.out
    rwa [List.take_of_length_le (by rw [← HM.out]; exact Nat.le_refl _)] at this
   have HG0 : Hid (nf.goF L (n + 1 - 0) 0 (ls.foldl nf.add []) = T) := by show _ = _; rw [hT, HN.out]; rfl
   clear hT hjt
   go_wp2
   go_loopw [10] (fun i wx => ∃ (k : Nat) (out : List Nat), i = .int .i64 k ∧ k ≤ n ∧ Hid (SP gi bi (bi + 1) n out wx) ∧ Hid (nf.goF L (n + 1 - k) k out = T) ∧ Hid (Below gi w wx)) (fun i _ => n - (intOf i).toNat)
   case atStart => exact ⟨0, _, rfl, by omega, HSP4.out, HG0.out, HB.out⟩
   case round =>
    rename World => wx
    clear HB HSP HSP4 HG0
    obtain ⟨k, out, rfl, hk, HSPx, HG, HB⟩ := hrel
    obtain ⟨ro, rc, ho, hown⟩ := HSPx.out.outb
    have o0 := boxc ho 0 _ rfl
    obtain ⟨q, hq⟩ : ∃ q, q = out.length := ⟨_, rfl⟩
    have hqn : q ≤ n := by rw [hq]; exact nf.ok_len HSPx.out.ok
    rw [← hq] at ho hown o0
    have HOW := Lib.hid (Cells.own hown)
    have HOR := Lib.hid hown
    have HQ := Lib.hid hq
    clear ho hown hq
    by_cases hkt : k < q
    ·
     have hkI : (k : Int) < (q : Int) := by omega
     obtain ⟨qb, qo, rfl, _, q0⟩ := nats_at HOW.out HQ.out hkt
     obtain ⟨s, hs⟩ : ∃ s, s = out.getD k 0 := ⟨_, rfl⟩
     rw [← hs] at q0
     have hkl : k < out.length := by rw [← HQ.out]; exact hkt
     have hsn : s < n := by rw [hs]; exact HSPx.out.ok.2 _ (by rw [List.getD_eq_getElem?_getD, List.getElem?_eq_getElem hkl]; exact List.getElem_mem _)
     have hsI : (s : Int) < (n : Int) := by omega
     have hs0 : (0 : Int) ≤ (s : Int) := by omega
     obtain ⟨lb, lof, eo, ec, rfl, r0, hcr⟩ := lvg_get (HL.out.below edR_steady (HBW.out _ HB.out) (Nat.le_refl _)) HN.out hsn
     obtain ⟨es, hes⟩ : ∃ es, es = L.getD s [] := ⟨_, rfl⟩
     rw [← hes] at r0 hcr
     obtain ⟨r, hr⟩ : ∃ r, r = es.length := ⟨_, rfl⟩
     rw [← hr] at r0 hcr
     have hr63 : r ≤ 9223372036854775807 := by obtain ⟨_, _, e, _, h9⟩ := hcr.form; simp only [Value.slice.injEq] at e; unfold maxLen at h9; exact h9
     have HCR : Hid (∀ W, Below gi w W → Cells W w.heap.size (.slice eo r ec) r 7 (ecells es)) := fun W hW => by
      obtain ⟨lb2, lof2, eo2, ec2, e1, r2, hc2⟩ := lvg_get (HL.out.below edR_steady (HBW.out _ hW) (Nat.le_refl _)) HN.out hsn
      cases e1
      rw [← hes, ← hr] at r2 hc2
      have h3 := (HB.out.cell (p := ⟨lb, lof + s, none⟩))
      have h4 := (hW.cell (p := ⟨lb, lof + s, none⟩))
      have hlb : lb < gi := by
       obtain ⟨b5, o5, c5, e5, h5, _⟩ := RowsAt.get HL.out HN.out hsn []
       cases e5
       rw [HGI.out]; exact h5
      rw [h4 hlb] at r2
      rw [h3 hlb] at r0
      have := r2.symm.trans r0
      simp only [Option.some.injEq, Value.slice.injEq] at this
      obtain ⟨rfl, _, rfl⟩ := this
      exact hc2
     have HESS : Hid (∀ e ∈ es, e.to < n) := by
      by_cases hsl : s < L.length
      ·
       exact HES.out _ (by rw [hes, List.getD_eq_getElem?_getD, List.getElem?_eq_getElem hsl]; exact List.getElem_mem _)
      ·
       intro e he
       rw [hes, List.getD_eq_getElem?_getD, List.getElem?_eq_none (by omega)] at he
       cases he
     have HGN : Hid (nf.goF L (n + 1 - (k + 1)) (k + 1) (nf.stepE out es) = T) := by
      show _ = _
      have := HG.out
      rw [show n + 1 - k = (n + 1 - (k + 1)) + 1 by omega, nf.goF, if_pos hkl, ← hs, ← hes] at this
      exact this
     have HR := Lib.hid hr
     clear hs hkl hes hr hcr
     go_wp2
     go_loopw [41] (fun i wy => ∃ (j : Nat), i = .int .i64 j ∧ j ≤ r ∧ Hid (SP gi bi (bi + 1) n (nf.stepE out (es.take j)) wy) ∧ Hid (Below gi w wy)) (fun i _ => r - (intOf i).toNat)
     case atStart => exact ⟨0, rfl, by omega, HSPx.out, HB.out⟩
     case round =>
      rename World => wy
      obtain ⟨j, rfl, hj, HSPy, HBy⟩ := hrel
      by_cases hjr : j < r
      ·
       have hjrI : (j : Int) < (r : Int) := by omega
       obtain ⟨eb, eof, rfl, heb, t0, t1, t2, t3, t4, t5, t6⟩ := ec_get (HCR.out _ HBy.out) HR.out hjr
       have hjl : j < es.length := by rw [← HR.out]; exact hjr
       obtain ⟨e, he⟩ : ∃ e, e = es.getD j default := ⟨_, rfl⟩
       have HTS := Lib.hid (nf.take_step (out := out) hjl)
       rw [← he] at t0 t1 t2 t3 t4 t5 t6 HTS
       have hton : e.to < n := by rw [he]; exact HESS.out _ (by rw [List.getD_eq_getElem?_getD, List.getElem?_eq_getElem hjl]; exact List.getElem_mem _)
       obtain ⟨w5, hw5⟩ : ∃ W, W = wy.alloc (.cells #[.int .i64 e.fr, .int .i64 e.to, .bool e.fre, .int .u64 e.cl.a, .int .u64 e.cl.b, .int .u64 e.cl.c, .int .u64 e.cl.d] 42) := ⟨_, rfl⟩
       have b5 : Below wy.heap.size wy w5 := by rw [hw5]; exact below1
       have HSP5 := Lib.hid (HSPy.out.next b5)
       have hgs : gi ≤ wy.heap.size := Nat.le_of_lt (lt_of_block HSPy.out.inr)
       have HB5 := Lib.hid (HBy.out.trans (b5.mono hgs))
       have HW5 := Lib.hid hw5
       clear he hjl hw5 b5
       cases hfr : e.fre
       ·
        rw [hfr] at t2 HTS HW5
        have HSP6 : Hid (SP gi bi (bi + 1) n (nf.stepE out (es.take (j + 1))) w5) := by show SP _ _ _ _ _ _; rw [HTS.out]; exact HSP5.out
        rw [HW5.out] at HSP6 HB5
        clear hfr
        go_wp2
        go_roundw
        case rel => exact ⟨j + 1, by go_num, by omega, HSP6, HB5⟩
        case measure => simp [intOf]; omega
       ·
        rw [hfr] at t2 HTS HW5
        have HRC := Lib.hid (nf_reach gi bi (bi + 1) n e.to _ w5 HSP5.out hton hn1)
        clear hfr
        go_wp2_with fail
        rw [← HW5.out]
        (with_reducible refine HRC.out.mono ?_)
        rintro en w6 ⟨rfl, hsp6, hb6⟩
        have HSP6 : Hid (SP gi bi (bi + 1) n (nf.stepE out (es.take (j + 1))) w6) := by show SP _ _ _ _ _ _; rw [HTS.out]; exact hsp6
        have HB6 := Lib.hid (HB5.out.trans hb6)
        clear hsp6 hb6
        go_wp2
        go_roundw
        case rel => exact ⟨j + 1, by go_num, by omega, HSP6, HB6⟩
        case measure => simp [intOf]; omega
      ·
       have hjr2 : r = j := by omega
       subst hjr2
       have HSP6 : Hid (SP gi bi (bi + 1) n (nf.stepE out es) wy) := by
        have := HSPy.out
        rwa [List.take_of_length_le (by rw [← HR.out]; exact Nat.le_refl _)] at this
       go_wp2
       go_roundw
       case rel => exact ⟨k + 1, _, by go_num, by omega, HSP6, HGN, HBy⟩
       case measure => simp [intOf]; omega
    ·
     have hkI : ¬ (k : Int) < (q : Int) := by omega
     have hkJ : (q : Int) ≤ (k : Int) := by omega
     have HTO : Hid (T = out) := by
      show _ = _
      rw [← HG.out]
      cases n + 1 - k with
      | zero => rfl
      | succ f => rw [nf.goF, if_neg (by rw [← HQ.out]; exact hkt)]
     have HEND : Hid (SprP T w (.returned (.slice ro q rc)) wx) := by
      show SprP _ _ _ _
      rw [HTO.out]
      refine ⟨ro, rc, by rw [← HQ.out], ?_, HBW.out _ HB.out⟩
      rw [← HQ.out]
      have hl1 := HSPx.out.lt1
      have := HGI.out
      exact own_monoS HOR.out (by omega)
     clear HOR HOW
     go_wp2
     go_ret
     have hend := HEND.out
     rw [HT.out] at hend
     exact hend
end Go.Proofs.Ytmfgplbfojnkdaa
namespace Go.Proofs.Ytmfgplbfojnkdaa
open Go Go.RowKit Go.ChangeShapes cl rx
structure nf.Rgt (sz st fi : Nat) (es : List nf.Ed) : Prop where
 one : 1 ≤ sz
 top : sz ≤ 400
 len : es.length ≤ 1600
 st : st < sz
 fi : fi < sz
 fr : ∀ e ∈ es, e.fr < sz
 to : ∀ e ∈ es, e.to < sz
 cl : ∀ e ∈ es, e.fre = true → e.cl = Cls.zero
set_option maxHeartbeats 1600000 in
set_option maxRecDepth 100000 in
theorem nf_isState (sz st fi i : Nat) (eo : Option Addr) (m ec : Nat) (w : World) (h : i < sz) : Calls Try.prog 31 #[.agg #[.int .i64 (sz : Int), .int .i64 (st : Int), .int .i64 (fi : Int), .slice eo m ec], .int .i64 (i : Int)] w fun e w' => e = .returned (.bool true) ∧ Below w.heap.size w w' := by
 have x1 : (w.alloc (.cells #[.int .i64 (sz : Int), .int .i64 (st : Int), .int .i64 (fi : Int), .slice eo m ec] 32)).heap[w.heap.size]? = some (.cells #[.int .i64 (sz : Int), .int .i64 (st : Int), .int .i64 (fi : Int), .slice eo m ec] 32 (0, 0)) := heap_alloc_new w _
 have c0 := boxc x1 0 _ rfl
 have hI : (i : Int) < (sz : Int) := by omega
 have h0 : (0 : Int) ≤ (i : Int) := by omega
 clear x1
 go_enter Try.func31, Try.ntmps31
 go_wp2
 go_ret
 exact ⟨by simp, below1⟩
set_option maxHeartbeats 3200000 in
set_option maxRecDepth 100000 in
theorem nf_right (sz st fi : Nat) (es : List nf.Ed) (eo : Option Addr) (m ec : Nat) (w : World) (h : nf.Rgt sz st fi es) (hm : m = es.length) (hc : Cells w w.heap.size (.slice eo m ec) m 7 (ecells es)) : Calls Try.prog 15 #[.agg #[.int .i64 (sz : Int), .int .i64 (st : Int), .int .i64 (fi : Int), .slice eo m ec]] w fun e w' => e = .returned (.bool true) ∧ Below w.heap.size w w' := by
 have h1 : ¬ (sz : Int) < 1 := by have := h.one; omega
 have h2 : ¬ (400 : Int) < (sz : Int) := by have := h.top; omega
 have h3 : ¬ (1600 : Int) < (m : Int) := by have := h.len; omega
 have h1b : (1 : Int) ≤ (sz : Int) := by omega
 have h2b : (sz : Int) ≤ 400 := by omega
 have h3b : (m : Int) ≤ 1600 := by omega
 have HIS : Hid (∀ (i : Nat) (W : World), i < sz → Calls Try.prog 31 #[.agg #[.int .i64 (sz : Int), .int .i64 (st : Int), .int .i64 (fi : Int), .slice eo m ec], .int .i64 (i : Int)] W fun e w' => e = .returned (.bool true) ∧ Below W.heap.size W w') := fun i W hi => nf_isState sz st fi i eo m ec W hi
 obtain ⟨P, hP⟩ : ∃ P, P = w.heap.size := ⟨_, rfl⟩
 obtain ⟨w1, hw1⟩ : ∃ W, W = w.alloc (.cells #[.int .i64 (sz : Int), .int .i64 (st : Int), .int .i64 (fi : Int), .slice eo m ec] 32) := ⟨_, rfl⟩
 have b1 : Below w.heap.size w w1 := by rw [hw1]; exact below1
 have x1 : w1.heap[P]? = some (.cells #[.int .i64 (sz : Int), .int .i64 (st : Int), .int .i64 (fi : Int), .slice eo m ec] 32 (0, 0)) := by rw [hw1, hP]; exact heap_alloc_new w _
 have HX : Hid (∀ W, Below w1.heap.size w1 W → W.heap[P]? = some (.cells #[.int .i64 (sz : Int), .int .i64 (st : Int), .int .i64 (fi : Int), .slice eo m ec] 32 (0, 0))) := fun W hW => (hW.block _ (lt_of_block x1)).trans x1
 have HC : Hid (∀ W, Below w1.heap.size w1 W → Cells W W.heap.size (.slice eo m ec) m 7 (ecells es)) := fun W hW => hc.next (b1.trans (hW.mono b1.size))
 have HB1 := Lib.hid b1
 have HW1 := Lib.hid hw1
 have HP := Lib.hid hP
 have HM := Lib.hid hm
 have HH := Lib.hid h
 have c0 := boxc x1 0 _ rfl
 have c1 := boxc x1 1 _ rfl
 have c2 := boxc x1 2 _ rfl
 have c3 := boxc x1 3 _ rfl
 rw [hw1, hP] at c0 c1 c2 c3
 clear h hm hc hP hw1 b1 x1
 go_enter Try.func15, Try.ntmps15
 go_wp2_with fail
 rw [← HW1.out, ← HP.out]
 (with_reducible refine (HIS.out st _ HH.out.st).mono ?_)
 rintro e w2 ⟨rfl, hb2⟩
 have HB2 := Lib.hid hb2
 have x2 := HX.out _ hb2
 have d0 := boxc x2 0 _ rfl
 have d1 := boxc x2 1 _ rfl
 have d2 := boxc x2 2 _ rfl
 have d3 := boxc x2 3 _ rfl
 clear x2 hb2 c0 c1 c2 c3
 go_wp2_with fail
 (with_reducible refine (HIS.out fi _ HH.out.fi).mono ?_)
 rintro e w3 ⟨rfl, hb3⟩
 have HB3 := Lib.hid (HB2.out.trans (hb3.mono HB2.out.size))
 have x3 := HX.out _ HB3.out
 have e3 := boxc x3 3 _ rfl
 clear hb3 d0 d1 d2 d3 x3
 go_wp2
 go_loopw [36] (fun i wr => ∃ (j : Nat), i = .int .i64 j ∧ j ≤ m ∧ Hid (Below w1.heap.size w1 wr)) (fun i _ => m - (intOf i).toNat)
 case atStart => exact ⟨0, rfl, by omega, HB3.out⟩
 case round =>
  clear e3
  obtain ⟨j, rfl, hj, HB⟩ := hrel
  by_cases hjt : j < m
  ·
   have hjI : (j : Int) < (m : Int) := by omega
   obtain ⟨eb, eof, rfl, heb, t0, t1, t2, t3, t4, t5, t6⟩ := ec_get (HC.out _ HB.out) HM.out hjt
   have hjl : j < es.length := by rw [← HM.out]; exact hjt
   obtain ⟨e, he⟩ : ∃ e, e = es.getD j default := ⟨_, rfl⟩
   have hem : e ∈ es := by rw [he, List.getD_eq_getElem?_getD, List.getElem?_eq_getElem hjl]; exact List.getElem_mem _
   rw [← he] at t0 t1 t2 t3 t4 t5 t6
   have HFR : Hid (e.fr < sz) := HH.out.fr e hem
   have HTO : Hid (e.to < sz) := HH.out.to e hem
   have HCL := Lib.hid (HH.out.cl e hem)
   obtain ⟨Q, hQ⟩ : ∃ Q, Q = wr.heap.size := ⟨_, rfl⟩
   obtain ⟨w5, hw5⟩ : ∃ W, W = wr.alloc (.cells #[.int .i64 e.fr, .int .i64 e.to, .bool e.fre, .int .u64 e.cl.a, .int .u64 e.cl.b, .int .u64 e.cl.c, .int .u64 e.cl.d] 42) := ⟨_, rfl⟩
   have b5 : Below wr.heap.size wr w5 := by rw [hw5]; exact below1
   have x5 : w5.heap[Q]? = some (.cells #[.int .i64 e.fr, .int .i64 e.to, .bool e.fre, .int .u64 e.cl.a, .int .u64 e.cl.b, .int .u64 e.cl.c, .int .u64 e.cl.d] 42 (0, 0)) := by rw [hw5, hQ]; exact heap_alloc_new wr _
   have HB5 := Lib.hid (HB.out.trans (b5.mono HB.out.size))
   have n5 := HX.out _ HB5.out
   have c0 := boxc n5 0 _ rfl
   have c1 := boxc n5 1 _ rfl
   have c2 := boxc n5 2 _ rfl
   have c3 := boxc n5 3 _ rfl
   rw [hw5] at c0 c1 c2 c3
   have HX5 := Lib.hid x5
   have HW5 := Lib.hid hw5
   have HQ := Lib.hid hQ
   clear he hem hjl hw5 b5 x5 n5 hQ
   go_wp2_with fail
   rw [← HW5.out, ← HQ.out]
   (with_reducible refine (HIS.out e.fr _ HFR.out).mono ?_)
   rintro en w6 ⟨rfl, hb6⟩
   have HB6 := Lib.hid (HB5.out.trans (hb6.mono HB5.out.size))
   have n6 := HX.out _ HB6.out
   have d0 := boxc n6 0 _ rfl
   have d1 := boxc n6 1 _ rfl
   have d2 := boxc n6 2 _ rfl
   have d3 := boxc n6 3 _ rfl
   have x6 := (hb6.block _ (lt_of_block HX5.out)).trans HX5.out
   have g1 := boxc x6 1 _ rfl
   have HX6 := Lib.hid x6
   clear n6 x6 hb6 c0 c1 c2 c3
   go_wp2_with fail
   (with_reducible refine (HIS.out e.to _ HTO.out).mono ?_)
   rintro en w7 ⟨rfl, hb7⟩
   have HB7 := Lib.hid (HB6.out.trans (hb7.mono HB6.out.size))
   have x7 := (hb7.block _ (lt_of_block HX6.out)).trans HX6.out
   clear hb7 d0 d1 d2 d3 g1
   cases hfr : e.fre
   ·
    rw [hfr] at x7
    have g2 := boxc x7 2 _ rfl
    clear hfr x7
    go_wp2
    go_roundw
    case rel => exact ⟨j + 1, by go_num, by omega, HB7⟩
    case measure => simp [intOf]; omega
   ·
    have hz := HCL.out hfr
    rw [hfr, hz] at x7
    have g2 := boxc x7 2 _ rfl
    have g3 : w7.cell? ⟨Q, 3, none⟩ = some (.int .u64 0) := boxc x7 3 _ rfl
    have g4 : w7.cell? ⟨Q, 4, none⟩ = some (.int .u64 0) := boxc x7 4 _ rfl
    have g5 : w7.cell? ⟨Q, 5, none⟩ = some (.int .u64 0) := boxc x7 5 _ rfl
    have g6 : w7.cell? ⟨Q, 6, none⟩ = some (.int .u64 0) := boxc x7 6 _ rfl
    clear hfr x7 hz
    go_wp2
    go_roundw
    case rel => exact ⟨j + 1, by go_num, by omega, HB7⟩
    case measure => simp [intOf]; omega
  ·
   have hjn : m = j := by omega
   subst hjn
   have HBE := Lib.hid (HB1.out.trans (HB.out.mono HB1.out.size))
   go_wp2
   go_ret
   exact ⟨rfl, HBE.out⟩
end Go.Proofs.Ytmfgplbfojnkdaa
