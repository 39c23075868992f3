/- codec's law: two messages compared, whatever they are. -/
import Derived.Test.YtghbkieflifegaaCdSameL
import Derived.Test.YtghbkieflifegaaCdNe0
import Derived.Test.YtghbkieflifegaaCdNe1
import Derived.Test.YtghbkieflifegaaCdNe2
import Derived.Test.YtghbkieflifegaaCdNe3
namespace Go.Proofs.Ytghbkieflifegaa
open Go Go.RowKit Go.ChangeShapes cl
set_option maxRecDepth 100000 in
theorem same_ne (m m' : cd.Msg) (c c' : List Value) (w : World) (h : msgRel w w.heap.size c m) (h' : msgRel w w.heap.size c' m') (hne : m ≠ m') :
    Calls Try.prog 14 #[.agg c.toArray, .agg c'.toArray] w (Said false w) := by
  obtain ⟨ae, ne, ce, aa, na, ca, p1, m1, k1, p2, m2, k2, p3, m3, k3, p4, m4, k4, sa, sn, sc, rfl, h1, h2, h3, h4, h5, h6, _, _, h9⟩ := h
  obtain ⟨ae', ne', ce', aa', na', ca', p1', m1', k1', p2', m2', k2', p3', m3', k3', p4', m4', k4', sa', sn', sc', rfl, h1', h2', h3', h4', h5', h6', _, _, h9'⟩ := h'
  obtain ⟨k, f, to, g, n, e, al, dv, dc, v, c, ki, mn, mv, s, er⟩ := m
  obtain ⟨k', f', to', g', n', e', al', dv', dc', v', c', ki', mn', mv', s', er'⟩ := m'
  simp only at h1 h2 h3 h4 h5 h6 h9 h1' h2' h3' h4' h5' h6' h9'
  simp only [ne_eq, cd.Msg.mk.injEq] at hne
  by_cases ck : k = k'
  rotate_left
  · exact ne_k k f to g n ki er k' f' to' g' n' ki' er' mn mv mn' mv' sn ne sn' ne' ae ce aa na ca p1 m1 k1 p2 m2 k2 p3 m3 k3 p4 m4 k4 sa sc ae' ce' aa' na' ca' p1' m1' k1' p2' m2' k2' p3' m3' k3' p4' m4' k4' sa' sc' w ck
  subst ck
  by_cases cf : f = f'
  rotate_left
  · exact ne_f k f to g n ki er f' to' g' n' ki' er' mn mv mn' mv' sn ne sn' ne' ae ce aa na ca p1 m1 k1 p2 m2 k2 p3 m3 k3 p4 m4 k4 sa sc ae' ce' aa' na' ca' p1' m1' k1' p2' m2' k2' p3' m3' k3' p4' m4' k4' sa' sc' w cf
  subst cf
  by_cases cto : to = to'
  rotate_left
  · exact ne_to k f to g n ki er to' g' n' ki' er' mn mv mn' mv' sn ne sn' ne' ae ce aa na ca p1 m1 k1 p2 m2 k2 p3 m3 k3 p4 m4 k4 sa sc ae' ce' aa' na' ca' p1' m1' k1' p2' m2' k2' p3' m3' k3' p4' m4' k4' sa' sc' w cto
  subst cto
  by_cases cg : g = g'
  rotate_left
  · exact ne_g k f to g n ki er g' n' ki' er' mn mv mn' mv' sn ne sn' ne' ae ce aa na ca p1 m1 k1 p2 m2 k2 p3 m3 k3 p4 m4 k4 sa sc ae' ce' aa' na' ca' p1' m1' k1' p2' m2' k2' p3' m3' k3' p4' m4' k4' sa' sc' w cg
  subst cg
  by_cases cn : n = n'
  rotate_left
  · exact ne_n k f to g n ki er n' ki' er' mn mv mn' mv' sn ne sn' ne' ae ce aa na ca p1 m1 k1 p2 m2 k2 p3 m3 k3 p4 m4 k4 sa sc ae' ce' aa' na' ca' p1' m1' k1' p2' m2' k2' p3' m3' k3' p4' m4' k4' sa' sc' w cn
  subst cn
  by_cases cki : ki = ki'
  rotate_left
  · exact ne_ki k f to g n ki er ki' er' mn mv mn' mv' sn ne sn' ne' ae ce aa na ca p1 m1 k1 p2 m2 k2 p3 m3 k3 p4 m4 k4 sa sc ae' ce' aa' na' ca' p1' m1' k1' p2' m2' k2' p3' m3' k3' p4' m4' k4' sa' sc' w cki
  subst cki
  by_cases cmn : mn = mn'
  rotate_left
  · exact ne_mn k f to g n ki er er' mn mv mn' mv' sn ne sn' ne' ae ce aa na ca p1 m1 k1 p2 m2 k2 p3 m3 k3 p4 m4 k4 sa sc ae' ce' aa' na' ca' p1' m1' k1' p2' m2' k2' p3' m3' k3' p4' m4' k4' sa' sc' w cmn
  subst cmn
  by_cases cmv : mv = mv'
  rotate_left
  · exact ne_mv k f to g n ki er er' mn mv mv' sn ne sn' ne' ae ce aa na ca p1 m1 k1 p2 m2 k2 p3 m3 k3 p4 m4 k4 sa sc ae' ce' aa' na' ca' p1' m1' k1' p2' m2' k2' p3' m3' k3' p4' m4' k4' sa' sc' w cmv
  subst cmv
  by_cases cer : er = er'
  rotate_left
  · exact ne_er k f to g n ki er er' mn mv sn ne sn' ne' ae ce aa na ca p1 m1 k1 p2 m2 k2 p3 m3 k3 p4 m4 k4 sa sc ae' ce' aa' na' ca' p1' m1' k1' p2' m2' k2' p3' m3' k3' p4' m4' k4' sa' sc' w cer
  subst cer
  by_cases csn : sn = sn'
  rotate_left
  · exact ne_sn k f to g n ki er mn mv sn ne sn' ne' ae ce aa na ca p1 m1 k1 p2 m2 k2 p3 m3 k3 p4 m4 k4 sa sc ae' ce' aa' na' ca' p1' m1' k1' p2' m2' k2' p3' m3' k3' p4' m4' k4' sa' sc' w csn
  subst csn
  by_cases cne : ne = ne'
  rotate_left
  · exact ne_ne k f to g n ki er mn mv sn ne ne' ae ce aa na ca p1 m1 k1 p2 m2 k2 p3 m3 k3 p4 m4 k4 sa sc ae' ce' aa' na' ca' p1' m1' k1' p2' m2' k2' p3' m3' k3' p4' m4' k4' sa' sc' w cne
  subst cne
  refine same_len k f to g n ki er mn mv e e' al al' dv dv' dc dc' v v' c c' s s' ne sn ae ce aa na ca p1 m1 k1 p2 m2 k2 p3 m3 k3 p4 m4 k4 sa sc ae' ce' aa' na' ca' p1' m1' k1' p2' m2' k2' p3' m3' k3' p4' m4' k4' sa' sc' w h1 h2 h3 h4 h5 h6 h9 h1' h2' h3' h4' h5' h6' h9' false (fun _ => rfl) ?_
  rintro ⟨a1, ⟨a2, a3⟩, ⟨a4, a5⟩, a6, a7⟩
  exact hne ⟨rfl, rfl, rfl, rfl, rfl, a7, a1, a2, a3, a4, a5, rfl, rfl, rfl, a6, rfl⟩
end Go.Proofs.Ytghbkieflifegaa
